/- Plain: words of texts that are put together. -/
import Derived.Test.YtaocplcmmpbjjaaDoorSX
import Derived.Test.YtaocplcmmpbjjaaDoorSU
namespace Go.Proofs.YtaocplcmmpbjjaaDoor
open Go Go.RowKit
namespace Sn
set_option linter.unusedVariables false
set_option linter.unusedSimpArgs false
abbrev Bs (s : ByteArray) : List UInt8 := s.data.toList
theorem bs_size (s : ByteArray) : (Bs s).length = s.size := Array.length_toList
/-- the words of a source, and its error -/
def scn (s : ByteArray) : List Wr × Option (Nat × Nat) := sc (rn (Bs s)) 0 4 []
theorem tl_scn (s : ByteArray) : tl s s.size 0 0 4 = toks (scn s) := by
  rw [tl_sc s s.size 0 0 4 [] (by omega) ⟨rfl, Nat.zero_le _, fun h => by cases h⟩, rns_rn]
  rfl
def wtx (l : List UInt8) (t : Wr) : List UInt8 := (l.drop t.at_).take (wid t.rs)
def wtv (l : List UInt8) (t : Wr) : TV := ⟨t.k, ⟨(wtx l t).toArray⟩, t.at_⟩
theorem ext_eq (s : ByteArray) (p w : Nat) : s.extract p (p + w) = ⟨(((Bs s).drop p).take w).toArray⟩ := by
  have h : Bs (s.extract p (p + w)) = ((Bs s).drop p).take w := by
    show (s.extract p (p + w)).data.toList = _
    rw [Lib.extract_data, show p + w - p = w by omega]
  rw [← h]
theorem tvs_wtv (s : ByteArray) (q : List Wr × Option (Nat × Nat)) : tvs s (toks q).1 = q.1.map (wtv (Bs s)) := by
  unfold tvs toks
  rw [List.map_map]
  refine List.map_congr_left (fun t _ => ?_)
  show tvOf s (tokOf t) = _
  unfold tvOf tokOf wtv wtx
  rw [← ext_eq]
def Tx (s : ByteArray) : List TV := (scn s).1.map (wtv (Bs s))
theorem tvs_tl (s : ByteArray) : tvs s (tl s s.size 0 0 4).1 = Tx s := by rw [tl_scn, tvs_wtv]; rfl
theorem all_ok {s : ByteArray} (hs : s.size ≤ 65536) (h : (scn s).2 = none) : tvs s (allA s).1 = Tx s ∧ (allA s).2.1 = s.size ∧ (allA s).2.2 = 0 := by
  unfold allA
  rw [if_neg (by omega), tl_scn]
  rcases hq : scn s with ⟨ts, e⟩
  rw [hq] at h
  obtain rfl : e = none := h
  have h1 : toks (ts, none) = (ts.map tokOf, none) := rfl
  rw [h1]
  refine ⟨?_, rfl, rfl⟩
  show tvs s (ts.map tokOf) = Tx s
  unfold Tx
  rw [hq]
  exact tvs_wtv s (ts, none)
theorem all_err {s : ByteArray} {p y : Nat} (hs : s.size ≤ 65536) (h : (scn s).2 = some (p, y)) : tvs s (allA s).1 = [] ∧ (allA s).2.1 = p ∧ (allA s).2.2 = y ∧ y ≠ 0 := by
  have hy : y ≠ 0 := tl_err s s.size 0 0 4 (p, y) (by rw [tl_scn]; exact h)
  unfold allA
  rw [if_neg (by omega), tl_scn]
  rcases hq : scn s with ⟨ts, e⟩
  rw [hq] at h
  obtain rfl : e = some (p, y) := h
  exact ⟨rfl, rfl, rfl, hy⟩
theorem scn_ch (s : ByteArray) : Ch 0 (rn (Bs s)) (scn s).1 := sc_ch (rn (Bs s)) 0 4 [] (.inl (.inl rfl))
theorem ch_loc : ∀ (ts : List Wr) (p : Nat) (tot : List Rn), Ch p tot ts → ∀ t ∈ ts, ∃ a b, tot = a ++ t.rs ++ b ∧ t.at_ = p + wid a
  | [], _, _, _, t, ht => by cases ht
  | t :: ts, p, tot, ⟨pre, rest, h1, h2, h3, h4⟩, x, hx => by
    rcases List.mem_cons.1 hx with rfl | hx
    · exact ⟨pre, rest, h1, h2⟩
    · obtain ⟨a, b, e1, e2⟩ := ch_loc ts _ _ h4 x hx
      refine ⟨pre ++ t.rs ++ a, b, by rw [h1, e1]; simp, by rw [e2, h2, wid_app, wid_app]; omega⟩
theorem wtx_rn {l : List UInt8} {a b : List Rn} {t : Wr} (h : rn l = a ++ t.rs ++ b) (h2 : t.at_ = wid a) : rn (wtx l t) = t.rs ∧ (wtx l t).length = wid t.rs ∧ t.at_ + wid t.rs ≤ l.length := by
  have h1 : rn (wtx l t) = t.rs := by unfold wtx; rw [h2]; exact rn_mid h
  have hw := rn_wid _ (wtx l t) (Nat.le_refl _)
  rw [h1] at hw
  have ht := rn_wid _ l (Nat.le_refl _)
  rw [h, wid_app, wid_app] at ht
  exact ⟨h1, hw.symm, by omega⟩
theorem scn_at (s : ByteArray) : ∀ t ∈ (scn s).1, WOk t.k t.rs ∧ rn (wtx (Bs s) t) = t.rs ∧ (wtx (Bs s) t).length = wid t.rs ∧ t.at_ + wid t.rs ≤ s.size := fun t ht => by
  obtain ⟨a, b, h1, h2⟩ := ch_loc _ _ _ (scn_ch s) t ht
  obtain ⟨h3, h4, h5⟩ := wtx_rn h1 (by rw [h2]; omega)
  exact ⟨ch_ok _ _ _ (scn_ch s) t ht, h3, h4, by rw [bs_size] at h5; exact h5⟩
theorem ch_next : ∀ (ts : List Wr) (p : Nat) (tot : List Rn), Ch p tot ts → ∀ i t u, ts[i]? = some t → ts[i + 1]? = some u → t.at_ + wid t.rs ≤ u.at_
  | [], _, _, _, i, t, u, ht, _ => by simp at ht
  | t :: ts, p, tot, ⟨pre, rest, h1, h2, h3, h4⟩, i, x, u, hx, hu => by
    cases i with
    | zero =>
      obtain rfl : t = x := by simpa using hx
      cases ts with
      | nil => simp at hu
      | cons v ts =>
        obtain rfl : v = u := by simpa using hu
        obtain ⟨pre2, _, _, h5, _⟩ := h4
        omega
    | succ i => exact ch_next ts _ _ h4 i x u (by simpa using hx) (by simpa using hu)
theorem ch_sum : ∀ (ts : List Wr) (p : Nat) (tot : List Rn), Ch p tot ts → (ts.map fun t => wid t.rs).sum ≤ wid tot
  | [], _, _, _ => Nat.zero_le _
  | t :: ts, p, tot, ⟨pre, rest, h1, h2, h3, h4⟩ => by
    have := ch_sum ts _ _ h4
    rw [h1, wid_app, wid_app, List.map_cons, List.sum_cons]
    omega
/-! ### a text of words -/
theorem rn_jf : ∀ (l : List ByteArray) (a : List UInt8), rn (jf a l) = rn a ++ l.flatMap fun t => bl :: rn (Bs t)
  | [], a => by show rn a = rn a ++ []; rw [List.append_nil]
  | t :: r, a => by
    show rn (jf (a ++ 32 :: Bs t) r) = _
    rw [rn_jf r, rn_app _ a _ (Nat.le_refl _) (.inr ⟨32, Bs t, rfl, by decide⟩), rn_asc 32 _ (by decide), List.append_assoc]
    rfl
theorem jf_pre : ∀ (l : List ByteArray) (a : List UInt8), ∃ z, jf a l = a ++ z
  | [], a => ⟨[], by rw [List.append_nil]; rfl⟩
  | t :: r, a => by
    obtain ⟨z, hz⟩ := jf_pre r (a ++ 32 :: Bs t)
    exact ⟨32 :: Bs t ++ z, by show jf (a ++ 32 :: Bs t) r = _; rw [hz, List.append_assoc]⟩
theorem jf_len : ∀ (l : List ByteArray) (a : List UInt8), (jf a l).length = a.length + (l.map fun t => t.size + 1).sum
  | [], a => rfl
  | t :: r, a => by
    show (jf (a ++ 32 :: Bs t) r).length = _
    rw [jf_len r, List.length_append, List.length_cons, bs_size, List.map_cons, List.sum_cons]
    omega
theorem placed_tv : ∀ (r : List Wr) (f : Wr → ByteArray) (a : List UInt8), (∀ t ∈ r, (Bs (f t)).length = wid t.rs) →
    (placed r a.length).map (fun t => (t.k, wtx (jf a (r.map f)) t)) = r.map (fun t => (t.k, Bs (f t)))
  | [], f, a, _ => rfl
  | t :: r, f, a, h => by
    have h0 := h t (by simp)
    have hl : (a ++ 32 :: Bs (f t)).length = a.length + 1 + wid t.rs := by rw [List.length_append, List.length_cons, h0]; omega
    show (⟨t.k, a.length + 1, t.rs⟩ :: placed r (a.length + 1 + wid t.rs)).map (fun u => (u.k, wtx (jf (a ++ 32 :: Bs (f t)) (r.map f)) u)) = (t.k, Bs (f t)) :: r.map (fun t => (t.k, Bs (f t)))
    rw [List.map_cons, ← hl, placed_tv r f _ (fun x hx => h x (by simp [hx]))]
    obtain ⟨z, hz⟩ := jf_pre (r.map f) (a ++ 32 :: Bs (f t))
    have : wtx (jf (a ++ 32 :: Bs (f t)) (r.map f)) ⟨t.k, a.length + 1, t.rs⟩ = Bs (f t) := by
      unfold wtx
      rw [hz, show a ++ 32 :: Bs (f t) ++ z = (a ++ [32]) ++ (Bs (f t) ++ z) by simp]
      show List.take (wid t.rs) (List.drop (a.length + 1) _) = _
      rw [List.drop_left' (by simp), List.take_left' h0]
    rw [this]
theorem fm_congr {α β : Type} {l : List α} {f g : α → List β} (h : ∀ a ∈ l, f a = g a) : l.flatMap f = l.flatMap g := by
  induction l with
  | nil => rfl
  | cons a l ih => rw [List.flatMap_cons, List.flatMap_cons, h a (by simp), ih (fun x hx => h x (by simp [hx]))]
/-- words told as a text, and read again: the same but for where they begin -/
theorem again (s : ByteArray) (hn : (scn s).2 = none) : (scn (txt (Tx s))).2 = none ∧ (Tx (txt (Tx s))).map (fun x => (x.k, x.t)) = (Tx s).map (fun x => (x.k, x.t)) := by
  have hat := scn_at s
  unfold Tx
  generalize (scn s).1 = ts at *
  have htx : ∀ us : List Wr, txts (us.map (wtv (Bs s))) = us.map fun t => ⟨(wtx (Bs s) t).toArray⟩ := fun us => by unfold txts; rw [List.map_map]; rfl
  cases ts with
  | nil =>
    have : Bs (txt (List.map (wtv (Bs s)) [])) = [] := rfl
    unfold scn
    rw [this]
    exact ⟨rfl, rfl⟩
  | cons t0 r =>
    have hB : Bs (txt ((t0 :: r).map (wtv (Bs s)))) = jf (wtx (Bs s) t0) (r.map fun t => ⟨(wtx (Bs s) t).toArray⟩) := by
      show jn (txts ((t0 :: r).map (wtv (Bs s)))) = _
      rw [htx]
      rfl
    have hsc : scn (txt ((t0 :: r).map (wtv (Bs s)))) = (⟨t0.k, 0, t0.rs⟩ :: placed r (wid t0.rs), none) := by
      unfold scn
      rw [hB, rn_jf, (hat t0 (by simp)).2.1, List.flatMap_map]
      have : (List.flatMap (fun a => bl :: rn (Bs (ByteArray.mk (wtx (Bs s) a).toArray))) r) = r.flatMap fun t => bl :: t.rs := by
        refine fm_congr fun t ht => ?_
        show bl :: rn (wtx (Bs s) t) = _
        rw [(hat t (by simp [ht])).2.1]
      rw [this, sc_word (hat t0 (by simp)).1, sc_again r t0.k _ t0.rs (hat t0 (by simp)).1 (fun t ht => (hat t (by simp [ht])).1), wid_nil]
      simp only [Nat.add_zero, Nat.zero_add]
    refine ⟨by rw [hsc], ?_⟩
    rw [hsc, hB]
    have hpl := placed_tv r (fun t => ⟨(wtx (Bs s) t).toArray⟩) (wtx (Bs s) t0) (fun t ht => (hat t (by simp [ht])).2.2.1)
    rw [(hat t0 (by simp)).2.2.1] at hpl
    obtain ⟨z, hz⟩ := jf_pre (r.map fun t => (⟨(wtx (Bs s) t).toArray⟩ : ByteArray)) (wtx (Bs s) t0)
    have h0 : wtx (jf (wtx (Bs s) t0) (r.map fun t => (⟨(wtx (Bs s) t).toArray⟩ : ByteArray))) ⟨t0.k, 0, t0.rs⟩ = wtx (Bs s) t0 := by
      rw [hz]
      show List.take (wid t0.rs) (List.drop 0 _) = _
      rw [List.drop_zero, List.take_left' (hat t0 (by simp)).2.2.1]
    have hm : ∀ (l : List UInt8) (us : List Wr), (us.map (wtv l)).map (fun x => (x.k, x.t)) = (us.map fun t => (t.k, wtx l t)).map fun x => (x.1, (⟨x.2.toArray⟩ : ByteArray)) := fun l us => by
      rw [List.map_map, List.map_map]
      rfl
    rw [hm, hm, List.map_cons, List.map_cons, h0, hpl]
    rfl
theorem txt_size (s : ByteArray) : (txt (Tx s)).size ≤ 2 * s.size + 2 := by
  have h1 : (txt (Tx s)).size = (jn (txts (Tx s))).length := by show (jn (txts (Tx s))).toArray.size = _; simp
  have hat := scn_at s
  have hsum := ch_sum _ _ _ (scn_ch s)
  have hw := rn_wid _ (Bs s) (Nat.le_refl _)
  rw [hw, bs_size] at hsum
  have hlen := tl_len1 s
  rw [tl_scn] at hlen
  have hlen2 : (scn s).1.length ≤ s.size + 1 := by simpa [toks] using hlen
  rw [h1]
  unfold Tx
  generalize (scn s).1 = ts at *
  cases ts with
  | nil => exact Nat.zero_le _
  | cons t0 r =>
    show (jf (wtx (Bs s) t0) (txts (r.map (wtv (Bs s))))).length ≤ _
    rw [jf_len, (hat t0 (by simp)).2.2.1]
    have h2 : ((txts (r.map (wtv (Bs s)))).map fun t => t.size + 1).sum ≤ (r.map fun t => wid t.rs).sum + r.length := by
      clear hsum hlen2
      induction r with
      | nil => exact Nat.le_refl _
      | cons t r ih =>
        have h3 := (hat t (by simp)).2.2.1
        have h4 : (⟨(wtx (Bs s) t).toArray⟩ : ByteArray).size = wid t.rs := by rw [← h3]; show (wtx (Bs s) t).toArray.size = _; simp
        show ((⟨(wtx (Bs s) t).toArray⟩ : ByteArray).size + 1 + ((txts (r.map (wtv (Bs s)))).map fun t => t.size + 1).sum) ≤ (wid t.rs + (r.map fun t => wid t.rs).sum) + (r.length + 1)
        have := ih (fun x hx => hat x (by rcases List.mem_cons.1 hx with rfl | h <;> simp_all))
        omega
    rw [List.map_cons, List.sum_cons] at hsum
    simp only [List.length_cons] at hlen2
    omega
end Sn
end Go.Proofs.YtaocplcmmpbjjaaDoor
