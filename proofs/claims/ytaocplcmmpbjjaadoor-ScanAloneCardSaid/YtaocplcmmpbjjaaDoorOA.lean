/- Plain: sources put together; words alone. -/
import Derived.Test.YtaocplcmmpbjjaaDoorSZ
namespace Go.Proofs.YtaocplcmmpbjjaaDoor
open Go Go.RowKit
namespace Sn
set_option linter.unusedVariables false
set_option linter.unusedSimpArgs false
theorem bs_app (a b : ByteArray) : Bs (a ++ b) = Bs a ++ Bs b := by
  show (a ++ b).data.toList = a.data.toList ++ b.data.toList
  rw [ByteArray.data_append, Array.toList_append]
/-- words moved on by so many bytes -/
theorem sc_from (l : List Rn) (p : Nat) (cur : List Rn) (q : Nat) (h : p + wid cur = q) : sc l p 4 cur = mv q (sc l 0 4 []) := by
  rw [sc_wht 4 (.inl rfl) l p (0 + q) cur [] (by rw [wid_nil]; omega), sc_mv]
theorem mv_1 (d : Nat) (q : List Wr × Option (Nat × Nat)) : (mv d q).1 = q.1.map fun t => ⟨t.k, t.at_ + d, t.rs⟩ := rfl
theorem mv_2 (d : Nat) (q : List Wr × Option (Nat × Nat)) : (mv d q).2 = q.2.map fun e => (e.1 + d, e.2) := rfl
def nlB : ByteArray := ⟨#[10]⟩
/-- two sources with a line feed between -/
theorem scn_join (s t : ByteArray) : scn (s ++ nlB ++ t) = match scn s with
    | (ts, some e) => (ts, some e)
    | (ts, none) => (ts ++ (mv (s.size + 1) (scn t)).1, (mv (s.size + 1) (scn t)).2) := by
  have h1 : rn (Bs (s ++ nlB ++ t)) = rn (Bs s) ++ nl :: rn (Bs t) := by
    rw [bs_app, bs_app, List.append_assoc]
    show rn (Bs s ++ 10 :: Bs t) = _
    rw [rn_app _ (Bs s) _ (Nat.le_refl _) (.inr ⟨10, _, rfl, by decide⟩), rn_asc 10 _ (by decide)]
    rfl
  have hw := rn_wid _ (Bs s) (Nat.le_refl _)
  unfold scn
  rw [h1, sc_join, sc_from (rn (Bs t)) _ [nl] (s.size + 1) (by rw [hw, bs_size, wid_nil, wid_one]; show 0 + 0 + s.size + 1 = _; omega)]
  rfl
theorem wtx_left {l m : List UInt8} {t : Wr} (h : t.at_ + wid t.rs ≤ l.length) : wtx (l ++ m) t = wtx l t := by
  unfold wtx
  rw [List.drop_append_of_le_length (by omega), List.take_append_of_le_length (by rw [List.length_drop]; omega)]
theorem wtx_right (l m : List UInt8) (t : Wr) : wtx (l ++ m) ⟨t.k, t.at_ + l.length, t.rs⟩ = wtx m t := by
  unfold wtx
  show List.take (wid t.rs) (List.drop (t.at_ + l.length) (l ++ m)) = _
  rw [Nat.add_comm, ← List.drop_drop, List.drop_left]
def mvT (d : Nat) (x : TV) : TV := ⟨x.k, x.t, x.p + d⟩
theorem tx_right (l m : List UInt8) (ts : List Wr) : (ts.map fun t => (⟨t.k, t.at_ + l.length, t.rs⟩ : Wr)).map (wtv (l ++ m)) = (ts.map (wtv m)).map (mvT l.length) := by
  rw [List.map_map, List.map_map]
  refine List.map_congr_left fun t _ => ?_
  show wtv (l ++ m) ⟨t.k, t.at_ + l.length, t.rs⟩ = mvT l.length (wtv m t)
  unfold wtv mvT
  rw [wtx_right]
theorem tx_left (s : ByteArray) (m : List UInt8) : (scn s).1.map (wtv (Bs s ++ m)) = Tx s := by
  unfold Tx
  refine List.map_congr_left fun t ht => ?_
  unfold wtv
  rw [wtx_left (by have := (scn_at s t ht).2.2.2; rw [bs_size]; omega)]
theorem join_ok {s t : ByteArray} (hs : (scn s).2 = none) (ht : (scn t).2 = none) : (scn (s ++ nlB ++ t)).2 = none ∧ Tx (s ++ nlB ++ t) = Tx s ++ (Tx t).map (mvT (s.size + 1)) := by
  have h := scn_join s t
  rcases hq : scn s with ⟨ts, e⟩
  rw [hq] at hs
  obtain rfl : e = none := hs
  rw [hq] at h
  dsimp only at h
  refine ⟨by rw [h]; show (mv _ (scn t)).2 = none; rw [mv_2, ht]; rfl, ?_⟩
  have hl : (Bs (s ++ nlB)).length = s.size + 1 := by rw [bs_app, List.length_append, bs_size]; rfl
  show (scn (s ++ nlB ++ t)).1.map (wtv (Bs (s ++ nlB ++ t))) = _
  rw [h, List.map_append, mv_1, bs_app, ← hl, tx_right]
  congr 1
  rw [bs_app, List.append_assoc]
  have := tx_left s (Bs nlB ++ Bs t)
  rw [hq] at this
  exact this
theorem join_err1 {s t : ByteArray} {p y : Nat} (hs : (scn s).2 = some (p, y)) : (scn (s ++ nlB ++ t)).2 = some (p, y) := by
  have h := scn_join s t
  rcases hq : scn s with ⟨ts, e⟩
  rw [hq] at hs
  obtain rfl : e = some (p, y) := hs
  rw [hq] at h
  rw [h]
theorem join_err2 {s t : ByteArray} {p y : Nat} (hs : (scn s).2 = none) (ht : (scn t).2 = some (p, y)) : (scn (s ++ nlB ++ t)).2 = some (p + (s.size + 1), y) := by
  have h := scn_join s t
  rcases hq : scn s with ⟨ts, e⟩
  rw [hq] at hs
  obtain rfl : e = none := hs
  rw [hq] at h
  rw [h]
  show (mv _ (scn t)).2 = _
  rw [mv_2, ht]
  rfl
/-! ### a comment ahead -/
def preB (n : Nat) : List UInt8 := 32 :: 35 :: (List.replicate n 120 ++ [10, 9])
theorem rn_pre (n : Nat) (m : List UInt8) : rn (preB n ++ m) = bl :: hs :: (List.replicate n ⟨120, 1, true⟩ ++ nl :: ⟨9, 1, true⟩ :: rn m) := by
  show rn (32 :: 35 :: ((List.replicate n 120 ++ [10, 9]) ++ m)) = _
  rw [rn_asc 32 _ (by decide), rn_asc 35 _ (by decide)]
  have : ∀ k, rn ((List.replicate k 120 ++ [10, 9]) ++ m) = List.replicate k ⟨120, 1, true⟩ ++ nl :: ⟨9, 1, true⟩ :: rn m := fun k => by
    induction k with
    | zero =>
      show rn (10 :: 9 :: m) = _
      rw [rn_asc 10 _ (by decide), rn_asc 9 _ (by decide)]
      rfl
    | succ k ih =>
      rw [List.replicate_succ, List.replicate_succ]
      show rn (120 :: ((List.replicate k 120 ++ [10, 9]) ++ m)) = _
      rw [rn_asc 120 _ (by decide), ih]
      rfl
  rw [this]
  rfl
theorem sc_pre (n : Nat) (l : List Rn) : sc (bl :: hs :: (List.replicate n ⟨120, 1, true⟩ ++ nl :: ⟨9, 1, true⟩ :: l)) 0 4 [] = mv (n + 4) (sc l 0 4 []) := by
  rw [sc_cons, show bl.ok = true from rfl, show bl.c = 32 from rfl, show goR 4 32 = true from by decide, if_pos (by decide), List.nil_append]
  rw [sc_cons, show hs.ok = true from rfl, show hs.c = 35 from rfl, show goR 4 35 = false from by decide, if_neg (by decide)]
  unfold fin
  rw [if_pos (.inl rfl)]
  dsimp only
  rw [if_neg (by decide), show kndR 35 = 5 from by decide, if_neg (by omega), List.nil_append]
  rw [sc_go (List.replicate n ⟨120, 1, true⟩) _ _ 5 [hs] (fun r hr => by obtain rfl := List.eq_of_mem_replicate hr; exact ⟨rfl, by decide⟩)]
  rw [sc_cons, show nl.ok = true from rfl, show nl.c = 10 from rfl, show goR 5 10 = false from by decide, if_neg (by decide)]
  unfold fin
  rw [if_pos (.inr rfl)]
  dsimp only
  rw [if_neg (by decide), show kndR 10 = 4 from by decide, if_neg (by omega), List.nil_append]
  rw [sc_cons]
  dsimp only
  rw [show goR 4 9 = true from by decide, if_pos (by decide)]
  rw [sc_from l _ _ (n + 4)]
  have hr : ∀ k, wid (List.replicate k (⟨120, 1, true⟩ : Rn)) = k := fun k => by
    induction k with
    | zero => rfl
    | succ k ih => rw [List.replicate_succ, show (⟨120, 1, true⟩ :: List.replicate k ⟨120, 1, true⟩ : List Rn) = [⟨120, 1, true⟩] ++ List.replicate k ⟨120, 1, true⟩ from rfl, wid_app, ih, wid_one]; show 1 + k = k + 1; omega
  simp only [wid_app, wid_one, wid_nil, hr]
  show 0 + 1 + (1 + n) + (1 + 1) = n + 4
  omega
theorem pre_ok (n : Nat) (d s : ByteArray) (hd : Bs d = preB n) : (scn (d ++ s)).2 = (scn s).2.map (fun e => (e.1 + (n + 4), e.2)) ∧ Tx (d ++ s) = (Tx s).map (mvT (n + 4)) := by
  have h : scn (d ++ s) = mv (n + 4) (scn s) := by
    unfold scn
    rw [bs_app, hd, rn_pre, sc_pre]
  have hl : (preB n).length = n + 4 := by unfold preB; simp
  refine ⟨by rw [h, mv_2], ?_⟩
  unfold Tx
  rw [h, mv_1, bs_app, hd, ← hl, tx_right]
end Sn
end Go.Proofs.YtaocplcmmpbjjaaDoor
