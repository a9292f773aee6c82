/- Plain reckoning of lines: sizes, places, faults, the instructions with their jumps; no program in it. | Plain facts of lines: labels called otherwise; lines in two parts. -/
import Derived.Test.YteppmkeoedddnaaDoorN0
import Derived.Test.YteppmkeoedddnaaDoorR1
namespace Go.Proofs.YteppmkeoedddnaaDoor
open Go Go.RowKit
namespace Ly
open Is
set_option linter.unusedVariables false
set_option linter.unusedSimpArgs false
instance decIns : DecidableEq Ins := fun a b => if h : eqI a b = true then isTrue (eqI_iff.1 h) else isFalse (fun e => h (eqI_iff.2 e))
/-- a line: its label (0: none), its instruction, the label that its jump goes to -/
structure Ln where
  lab : Int
  ins : Ins
  to : Int
def Ln.vs (l : Ln) : Array Value := #[.int .i64 l.lab, .int .i64 l.ins.op, .int .i64 l.ins.d, .int .i64 l.ins.s, .int .i64 l.ins.t, .int .i64 l.ins.b, .int .i64 l.ins.x, .int .i64 l.ins.sc, .int .i64 l.ins.di, .int .i64 l.ins.im, .int .i64 l.to]
structure Ln.wf (l : Ln) : Prop where
  lab : I64 l.lab
  ins : l.ins.wf
  to : I64 l.to
def szL (l : Ln) : Nat := if l.lab ≠ 0 then 0 else (encS l.ins).size
theorem szL_le (l : Ln) : szL l ≤ 11 := by
  unfold szL
  split
  · omega
  · cases h : okI l.ins with
    | true => rw [encS_len h]; exact (encl_ok l.ins h).2.2
    | false => unfold encS; rw [h]; exact Nat.zero_le _
/-- how many bytes lines have -/
def upL (ls : List Ln) : Nat := (ls.map szL).sum
theorem upL_nil : upL [] = 0 := rfl
theorem upL_snoc (ls : List Ln) (l : Ln) : upL (ls ++ [l]) = upL ls + szL l := by unfold upL; simp
theorem upL_app (ls ms : List Ln) : upL (ls ++ ms) = upL ls + upL ms := by unfold upL; simp
theorem upL_le : ∀ ls : List Ln, upL ls ≤ ls.length * 11
  | [] => by simp [upL]
  | l :: ls => by
    have h1 := upL_le ls
    have h2 := szL_le l
    unfold upL at *
    simp only [List.map_cons, List.sum_cons, List.length_cons]
    omega
/-- a place's number, as a map has it behind these lines: the last one counts -/
def stepK (n : Int) (p : Nat × Option Nat) (l : Ln) : Nat × Option Nat := (p.1 + szL l, if l.lab = n then some (p.1 + szL l) else p.2)
def look (ls : List Ln) (n : Int) : Option Nat := (ls.foldl (stepK n) (0, none)).2
theorem fold_up (n : Int) : ∀ (ls : List Ln) (p : Nat × Option Nat), (ls.foldl (stepK n) p).1 = p.1 + upL ls
  | [], p => by simp [upL]
  | l :: ls, p => by
    rw [List.foldl_cons, fold_up n ls]
    unfold stepK upL
    simp only [List.map_cons, List.sum_cons]
    omega
theorem look_snoc (ls : List Ln) (l : Ln) (n : Int) : look (ls ++ [l]) n = if l.lab = n then some (upL (ls ++ [l])) else look ls n := by
  unfold look
  rw [List.foldl_append, List.foldl_cons, List.foldl_nil]
  show (if l.lab = n then some ((ls.foldl (stepK n) (0, none)).1 + szL l) else (ls.foldl (stepK n) (0, none)).2) = _
  rw [fold_up, Nat.zero_add, upL_snoc]
theorem look_nil (n : Int) : look [] n = none := rfl
/-- is there a line with this label (above 0)? -/
def hasL (ls : List Ln) (n : Int) : Bool := decide (0 < n) && ls.any fun l => decide (l.lab = n)
theorem look_some (ls : List Ln) (n : Int) : (look ls n).isSome = ls.any fun l => decide (l.lab = n) := by
  have key : ∀ (ls : List Ln) (p : Nat × Option Nat), (ls.foldl (stepK n) p).2.isSome = (p.2.isSome || ls.any fun l => decide (l.lab = n)) := by
    intro ls
    induction ls with
    | nil => intro p; simp
    | cons l ls ih =>
      intro p
      rw [List.foldl_cons, ih]
      unfold stepK
      by_cases h : l.lab = n <;> simp [h]
  rw [show look ls n = (ls.foldl (stepK n) (0, none)).2 from rfl, key]
  simp
def dupL (pre : List Ln) (n : Int) : Bool := pre.any fun l => decide (l.lab = n)
/-- a line's fault, behind those of pre, among all -/
def fltL (all pre : List Ln) (l : Ln) : Int :=
  if l.lab ≠ 0 then (if l.lab < 0 ∨ l.ins ≠ zI ∨ l.to ≠ 0 then 2 else if dupL pre l.lab then 6 else 0)
  else if chk l.ins ≠ 0 then 2
  else if jmpB l.ins then (if l.ins.im ≠ 0 then 2 else if hasL all l.to then 0 else 5)
  else if l.to ≠ 0 then 2 else 0
/-- the first fault, and its line's number -/
def chkL (all : List Ln) : List Ln → List Ln → Nat × Int
  | pre, [] => (pre.length, if 1048576 < upL all then 10 else 0)
  | pre, l :: r => if fltL all pre l ≠ 0 then (pre.length, fltL all pre l) else chkL all (pre ++ [l]) r
/-- a line's instruction, its jump by as much as its label's place asks -/
def fixL (all : List Ln) (behind : Nat) (l : Ln) : Ins := if jmpB l.ins then { l.ins with im := (((look all l.to).getD 0 : Nat) : Int) - (behind : Int) } else l.ins
def stepI (all : List Ln) (p : Nat × List Ins) (l : Ln) : Nat × List Ins := (p.1 + szL l, if l.lab ≠ 0 then p.2 else p.2 ++ [fixL all (p.1 + szL l) l])
def insL (all ls : List Ln) : List Ins := (ls.foldl (stepI all) (0, [])).2
theorem fold_upI (all : List Ln) : ∀ (ls : List Ln) (p : Nat × List Ins), (ls.foldl (stepI all) p).1 = p.1 + upL ls
  | [], p => by simp [upL]
  | l :: ls, p => by
    rw [List.foldl_cons, fold_upI all ls]
    unfold stepI upL
    simp only [List.map_cons, List.sum_cons]
    omega
theorem insL_snoc (all ls : List Ln) (l : Ln) : insL all (ls ++ [l]) = if l.lab ≠ 0 then insL all ls else insL all ls ++ [fixL all (upL (ls ++ [l])) l] := by
  unfold insL
  rw [List.foldl_append, List.foldl_cons, List.foldl_nil]
  show (if l.lab ≠ 0 then (ls.foldl (stepI all) (0, [])).2 else (ls.foldl (stepI all) (0, [])).2 ++ [fixL all ((ls.foldl (stepI all) (0, [])).1 + szL l) l]) = _
  rw [fold_upI, Nat.zero_add, upL_snoc]
theorem insL_len (all : List Ln) (ls : List Ln) : (insL all ls).length ≤ ls.length := by
  have key : ∀ (ls : List Ln) (p : Nat × List Ins), (ls.foldl (stepI all) p).2.length ≤ p.2.length + ls.length := by
    intro ls
    induction ls with
    | nil => intro p; simp
    | cons l ls ih =>
      intro p
      rw [List.foldl_cons]
      have := ih (stepI all p l)
      have h2 : (stepI all p l).2.length ≤ p.2.length + 1 := by unfold stepI; dsimp only; split <;> simp
      simp only [List.length_cons]
      omega
  have := key ls (0, [])
  unfold insL
  simpa using this
theorem look_b (ls : List Ln) (n : Int) {k : Nat} (h : look ls n = some k) : k ≤ upL ls := by
  have key : ∀ (ls : List Ln) (p : Nat × Option Nat), (∀ k, p.2 = some k → k ≤ p.1) → ∀ k, (ls.foldl (stepK n) p).2 = some k → k ≤ (ls.foldl (stepK n) p).1 := by
    intro ls
    induction ls with
    | nil => intro p hp; simpa using hp
    | cons l ls ih =>
      intro p hp
      rw [List.foldl_cons]
      refine ih _ (fun k hk => ?_)
      unfold stepK at hk ⊢
      dsimp only at hk ⊢
      split at hk
      · cases hk; omega
      · have := hp k hk; omega
  have := key ls (0, none) (fun k hk => by cases hk) k h
  rw [fold_up] at this
  simpa using this
theorem fix_wf {all : List Ln} {behind : Nat} {l : Ln} (h : l.ins.wf) (hb : behind ≤ 1000000) (ha : upL all ≤ 1000000) : (fixL all behind l).wf := by
  unfold fixL
  split
  · have h2 : ((look all l.to).getD 0 : Nat) ≤ 1000000 := by
      cases e : look all l.to with
      | none => simp
      | some k => have := look_b all l.to e; simp only [Option.getD_some]; omega
    exact ⟨h.op, h.d, h.s, h.t, h.b, h.x, h.sc, h.di, by dsimp only; unfold I64; omega⟩
  · exact h
theorem insL_wf {all : List Ln} (ha : upL all ≤ 1000000) : ∀ ls : List Ln, (∀ l ∈ ls, l.wf) → upL ls ≤ 1000000 → ∀ i ∈ insL all ls, i.wf := by
  intro ls
  have key : ∀ (ls : List Ln) (p : Nat × List Ins), (∀ l ∈ ls, l.wf) → p.1 + upL ls ≤ 1000000 → (∀ i ∈ p.2, i.wf) → ∀ i ∈ (ls.foldl (stepI all) p).2, i.wf := by
    intro ls
    induction ls with
    | nil => intro p _ _ hp; simpa using hp
    | cons l ls ih =>
      intro p hl hu hp
      rw [List.foldl_cons]
      have e : upL (l :: ls) = szL l + upL ls := by unfold upL; simp
      refine ih _ (fun x hx => hl x (by simp [hx])) (by unfold stepI; dsimp only; omega) (fun i hi => ?_)
      unfold stepI at hi
      dsimp only at hi
      split at hi
      · exact hp i hi
      · rcases List.mem_append.1 hi with h | h
        · exact hp i h
        · simp at h
          rw [h]
          exact fix_wf (hl l (by simp)).ins (by omega) ha
  intro hl hu
  exact key ls (0, []) hl (by simpa using hu) (fun i hi => by cases hi)
/-- what lines' bytes are: the text, the error -/
def bytS (ls : List Ln) : ByteArray := if (chkL ls [] ls).2 ≠ 0 then ⟨#[]⟩ else allS (insL ls ls)
def bytE (ls : List Ln) : Int := if (chkL ls [] ls).2 ≠ 0 then (chkL ls [] ls).2 else allE (insL ls ls)
end Ly
end Go.Proofs.YteppmkeoedddnaaDoor
namespace Go.Proofs.YteppmkeoedddnaaDoor
open Go Go.RowKit
namespace Ly
open Is
set_option linter.unusedVariables false
set_option linter.unusedSimpArgs false
def rn (d n : Int) : Int := if 0 < n then n + d else n
def ren (d : Int) (l : Ln) : Ln := { l with lab := rn d l.lab, to := rn d l.to }
theorem rn_inj {d a b : Int} (hd : 0 ≤ d) : rn d a = rn d b ↔ a = b := by
  unfold rn
  constructor
  · intro h; split at h <;> split at h <;> omega
  · rintro rfl; rfl
theorem rn_0 {d a : Int} (hd : 0 ≤ d) : rn d a = 0 ↔ a = 0 := by unfold rn; split <;> omega
theorem rn_neg {d a : Int} (hd : 0 ≤ d) : rn d a < 0 ↔ a < 0 := by unfold rn; split <;> omega
theorem rn_pos {d a : Int} (hd : 0 ≤ d) : 0 < rn d a ↔ 0 < a := by unfold rn; split <;> omega
theorem szL_ren {d : Int} (hd : 0 ≤ d) (l : Ln) : szL (ren d l) = szL l := by
  unfold szL ren
  dsimp only
  by_cases h : l.lab = 0
  · rw [if_neg (by rw [Ne, rn_0 hd]; simpa using h), if_neg (by simpa using h)]
  · rw [if_pos (by rw [Ne, rn_0 hd]; exact h), if_pos h]
theorem upL_ren {d : Int} (hd : 0 ≤ d) (ls : List Ln) : upL (ls.map (ren d)) = upL ls := by
  unfold upL
  rw [List.map_map]
  congr 1
  exact List.map_congr_left (fun l _ => szL_ren hd l)
theorem look_ren {d : Int} (hd : 0 ≤ d) (ls : List Ln) (n : Int) : look (ls.map (ren d)) (rn d n) = look ls n := by
  unfold look
  rw [List.foldl_map]
  congr 1
  congr 1
  funext p l
  unfold stepK
  rw [szL_ren hd, show (ren d l).lab = rn d l.lab from rfl]
  by_cases h : l.lab = n
  · rw [if_pos ((rn_inj hd).2 h), if_pos h]
  · rw [if_neg (fun e => h ((rn_inj hd).1 e)), if_neg h]
theorem any_ren {d : Int} (hd : 0 ≤ d) (ls : List Ln) (n : Int) : ((ls.map (ren d)).any fun l => decide (l.lab = rn d n)) = ls.any fun l => decide (l.lab = n) := by
  rw [List.any_map]
  congr 1
  funext l
  show decide (rn d l.lab = rn d n) = _
  rw [decide_eq_decide]
  exact rn_inj hd
theorem hasL_ren {d : Int} (hd : 0 ≤ d) (ls : List Ln) (n : Int) : hasL (ls.map (ren d)) (rn d n) = hasL ls n := by
  unfold hasL
  rw [any_ren hd, decide_eq_decide.2 (rn_pos hd)]
theorem dupL_ren {d : Int} (hd : 0 ≤ d) (ls : List Ln) (n : Int) : dupL (ls.map (ren d)) (rn d n) = dupL ls n := any_ren hd ls n
theorem fltL_ren {d : Int} (hd : 0 ≤ d) (all pre : List Ln) (l : Ln) : fltL (all.map (ren d)) (pre.map (ren d)) (ren d l) = fltL all pre l := by
  unfold fltL
  rw [show (ren d l).ins = l.ins from rfl, show (ren d l).to = rn d l.to from rfl, show (ren d l).lab = rn d l.lab from rfl, hasL_ren hd, dupL_ren hd]
  simp only [Ne, rn_0 hd, rn_neg hd]
theorem chkL_ren {d : Int} (hd : 0 ≤ d) (all : List Ln) : ∀ (r pre : List Ln), chkL (all.map (ren d)) (pre.map (ren d)) (r.map (ren d)) = chkL all pre r
  | [], pre => by simp only [List.map_nil, chkL, List.length_map, upL_ren hd]
  | l :: r, pre => by
    have ih := chkL_ren hd all r (pre ++ [l])
    rw [List.map_append, List.map_cons, List.map_nil] at ih
    simp only [List.map_cons, chkL, List.length_map, fltL_ren hd, ih]
theorem fixL_ren {d : Int} (hd : 0 ≤ d) (all : List Ln) (b : Nat) (l : Ln) : fixL (all.map (ren d)) b (ren d l) = fixL all b l := by
  unfold fixL
  rw [show (ren d l).ins = l.ins from rfl, show (ren d l).to = rn d l.to from rfl, look_ren hd]
theorem insL_ren {d : Int} (hd : 0 ≤ d) (all ls : List Ln) : insL (all.map (ren d)) (ls.map (ren d)) = insL all ls := by
  unfold insL
  rw [List.foldl_map]
  congr 1
  congr 1
  funext p l
  unfold stepI
  rw [szL_ren hd, fixL_ren hd, show (ren d l).lab = rn d l.lab from rfl]
  by_cases h : l.lab = 0
  · rw [if_neg (by rw [Ne, rn_0 hd]; simpa using h), if_neg (by simpa using h)]
  · rw [if_pos (by rw [Ne, rn_0 hd]; exact h), if_pos h]
theorem byt_ren {d : Int} (hd : 0 ≤ d) (ls : List Ln) : bytS (ls.map (ren d)) = bytS ls ∧ bytE (ls.map (ren d)) = bytE ls := by
  have h := chkL_ren hd ls ls []
  rw [List.map_nil] at h
  unfold bytS bytE
  rw [h, insL_ren hd]
  exact ⟨rfl, rfl⟩
/-! ### two parts -/
theorem look_fold (n : Int) : ∀ (c : List Ln) (p : Nat × Option Nat), (c.foldl (stepK n) p).2 = match (c.foldl (stepK n) (0, none)).2 with | some k => some (p.1 + k) | none => p.2
  | [], p => rfl
  | l :: c, p => by
    rw [List.foldl_cons, List.foldl_cons, look_fold n c (stepK n p l), look_fold n c (stepK n (0, none) l)]
    generalize (List.foldl (stepK n) (0, none) c).2 = q
    unfold stepK
    cases q with
    | some k => simp; omega
    | none =>
      dsimp only
      split <;> simp
theorem look_app (a c : List Ln) (n : Int) : look (a ++ c) n = match look c n with | some k => some (upL a + k) | none => look a n := by
  unfold look
  rw [List.foldl_append, look_fold, fold_up, Nat.zero_add]
theorem stepI_acc (all : List Ln) (k : Nat) (acc : List Ins) (l : Ln) : stepI all (k, acc) l = (k + szL l, acc ++ (stepI all (k, []) l).2) := by
  unfold stepI
  dsimp only
  split <;> simp
theorem insG_fold (all : List Ln) : ∀ (ls : List Ln) (k : Nat) (acc : List Ins), (ls.foldl (stepI all) (k, acc)).2 = acc ++ (ls.foldl (stepI all) (k, [])).2
  | [], k, acc => by simp
  | l :: ls, k, acc => by
    rw [List.foldl_cons, List.foldl_cons, stepI_acc all k acc l, insG_fold all ls, stepI_acc all k [] l, insG_fold all ls (k + szL l) ([] ++ (stepI all (k, []) l).2)]
    simp
/-- all lines may be -/
def okC (ls : List Ln) : Prop := (chkL ls [] ls).2 = 0
theorem chk_iff {all : List Ln} (hu : upL all ≤ 1048576) : ∀ (r pre : List Ln), (chkL all pre r).2 = 0 ↔ ∀ p l s, r = p ++ l :: s → fltL all (pre ++ p) l = 0
  | [], pre => by
    unfold chkL
    rw [if_neg (by omega)]
    exact ⟨fun _ p l s h => by simp at h, fun _ => rfl⟩
  | x :: r, pre => by
    unfold chkL
    split
    · rename_i h
      refine ⟨fun h' => absurd h' h, fun h' => ?_⟩
      have := h' [] x r rfl
      rw [List.append_nil] at this
      exact absurd this h
    · rename_i h
      rw [chk_iff hu r (pre ++ [x])]
      constructor
      · intro h' p l s e
        cases p with
        | nil =>
          rw [List.nil_append] at e
          cases e
          rw [List.append_nil]
          exact Classical.byContradiction fun hn => h hn
        | cons y p =>
          rw [List.cons_append] at e
          cases e
          have := h' p l s rfl
          rwa [List.append_assoc, List.singleton_append] at this
      · intro h' p l s e
        have := h' (x :: p) l s (by rw [e]; rfl)
        rwa [List.append_assoc, List.singleton_append]
theorem okC_iff {ls : List Ln} (hu : upL ls ≤ 1048576) : okC ls ↔ ∀ p l s, ls = p ++ l :: s → fltL ls p l = 0 := by
  unfold okC
  rw [chk_iff hu]
  simp only [List.nil_append]
theorem bytE_iff (ls : List Ln) : bytE ls = 0 ↔ okC ls ∧ allOk (insL ls ls) = true := by
  unfold bytE okC allE
  by_cases h : (chkL ls [] ls).2 = 0
  · rw [if_neg (by simpa using h)]
    cases allOk (insL ls ls) <;> simp [h]
  · rw [if_pos h]
    simp [h]
theorem bytS_ok {ls : List Ln} (h : okC ls) : bytS ls = allS (insL ls ls) := by
  unfold bytS
  unfold okC at h
  rw [if_neg (by simpa using h)]
section
variable {a b : List Ln} {d : Int} (hd : 0 ≤ d) (ha : ∀ l ∈ a, l.lab ≤ d ∧ l.to ≤ d)
omit hd in
theorem any_c (b : List Ln) {n : Int} (h0 : 0 < n) (hn : n ≤ d) : ((b.map (ren d)).any fun l => decide (l.lab = n)) = false := by
  rw [List.any_eq_false]
  intro x hx
  obtain ⟨y, _, rfl⟩ := List.mem_map.1 hx
  simp only [decide_eq_true_eq]
  show ¬ rn d y.lab = n
  unfold rn
  split <;> omega
include ha in
theorem any_a {n : Int} (hn : d < n) : (a.any fun l => decide (l.lab = n)) = false := by
  rw [List.any_eq_false]
  intro x hx
  simp only [decide_eq_true_eq]
  have := (ha x hx).1
  omega
omit hd in
theorem hasL_a {n : Int} (hn : n ≤ d) : hasL (a ++ b.map (ren d)) n = hasL a n := by
  unfold hasL
  by_cases h0 : 0 < n
  · rw [List.any_append, any_c b h0 hn, Bool.or_false]
  · simp [h0]
include hd ha in
theorem hasL_b (n : Int) : hasL (a ++ b.map (ren d)) (rn d n) = hasL b n := by
  rw [← hasL_ren hd b n]
  unfold hasL
  by_cases h0 : 0 < n
  · rw [List.any_append, any_a ha (show d < rn d n by unfold rn; rw [if_pos h0]; omega), Bool.false_or]
  · have : ¬ 0 < rn d n := fun h => h0 ((rn_pos hd).1 h)
    simp [this]
omit hd in
theorem flt_a {l : Ln} (hl : l.lab ≤ d ∧ l.to ≤ d) (pre : List Ln) : fltL (a ++ b.map (ren d)) pre l = fltL a pre l := by
  unfold fltL
  rw [hasL_a hl.2]
include hd ha in
theorem flt_b (l : Ln) (pre : List Ln) : fltL (a ++ b.map (ren d)) (a ++ pre.map (ren d)) (ren d l) = fltL b pre l := by
  rw [← fltL_ren hd b pre l]
  unfold fltL
  rw [show (ren d l).to = rn d l.to from rfl, hasL_b hd ha, hasL_ren hd]
  by_cases h : (ren d l).lab < 0
  · simp only [h, true_or, if_true]
  · by_cases h0 : (ren d l).lab = 0
    · simp only [h0, ne_eq, not_true_eq_false, if_false]
    · have h1 : dupL (a ++ pre.map (ren d)) (ren d l).lab = dupL (pre.map (ren d)) (ren d l).lab := by
        unfold dupL
        rw [List.any_append, any_a ha (show d < (ren d l).lab by
          have h2 : (ren d l).lab = rn d l.lab := rfl
          rw [h2] at h h0 ⊢
          unfold rn at *
          split at h <;> split at h0 <;> (try split) <;> omega), Bool.false_or]
      rw [h1]
include hd ha in
theorem okC_app (hu : upL (a ++ b.map (ren d)) ≤ 1048576) : okC (a ++ b.map (ren d)) ↔ okC a ∧ okC b := by
  have hua : upL a ≤ 1048576 := by rw [upL_app] at hu; omega
  have hub : upL b ≤ 1048576 := by rw [upL_app, upL_ren hd] at hu; omega
  rw [okC_iff hu, okC_iff hua, okC_iff hub]
  constructor
  · intro h
    refine ⟨fun p l s e => ?_, fun p l s e => ?_⟩
    · have := h p l (s ++ b.map (ren d)) (by rw [e]; simp)
      rwa [flt_a (ha l (by rw [e]; simp))] at this
    · have := h (a ++ p.map (ren d)) (ren d l) (s.map (ren d)) (by rw [e]; simp)
      rwa [flt_b hd ha] at this
  · rintro ⟨h1, h2⟩ p l s e
    rcases List.append_eq_append_iff.1 e with ⟨q, e1, e2⟩ | ⟨q, e1, e2⟩
    · -- the line is of b
      cases q with
      | nil =>
        rw [List.append_nil] at e1
        rw [List.nil_append] at e2
        cases hb : b with
        | nil => rw [hb] at e2; cases e2
        | cons y r =>
          rw [hb, List.map_cons] at e2
          injection e2 with e3 e4
          have := h2 [] y r hb
          rw [e1, ← e3]
          have h3 := flt_b hd ha (b := b) y []
          rw [List.map_nil, List.append_nil] at h3
          rw [← hb, h3]
          exact this
      | cons z q =>
        have e5 : b.map (ren d) = (z :: q) ++ l :: s := e2
        obtain ⟨p', r', rfl, hp, hr⟩ := List.map_eq_append_iff.1 e5
        cases r' with
        | nil => simp at hr
        | cons y r' =>
          rw [List.map_cons] at hr
          injection hr with e3 e4
          have := h2 p' y r' rfl
          rw [e1, ← hp, ← e3, flt_b hd ha]
          exact this
    · -- the line is of a, or b's first
      cases q with
      | nil =>
        rw [List.append_nil] at e1
        rw [List.nil_append] at e2
        cases hb : b with
        | nil => rw [hb] at e2; cases e2
        | cons y r =>
          rw [hb, List.map_cons] at e2
          injection e2 with e3 e4
          have := h2 [] y r hb
          rw [← e1, e3]
          have h3 := flt_b hd ha (b := b) y []
          rw [List.map_nil, List.append_nil] at h3
          rw [← hb, h3]
          exact this
      | cons z q =>
        rw [List.cons_append] at e2
        injection e2 with e3 e4
        subst e3
        have := h1 p l q e1
        rw [flt_a (ha l (by rw [e1]; simp))]
        exact this
theorem jmp_to {all pre : List Ln} {l : Ln} (h : fltL all pre l = 0) (h0 : l.lab = 0) (hj : jmpB l.ins = true) : hasL all l.to = true := by
  unfold fltL at h
  rw [if_neg (by simpa using h0)] at h
  split at h
  · cases h
  · split at h
    · cases h
    · split at h
      · assumption
      · cases h
theorem okC_mem {ls : List Ln} (hu : upL ls ≤ 1048576) (h : okC ls) {l : Ln} (hl : l ∈ ls) : ∃ pre, fltL ls pre l = 0 := by
  obtain ⟨p, s, e⟩ := List.append_of_mem hl
  exact ⟨p, (okC_iff hu).1 h p l s e⟩
theorem hasL_look {ls : List Ln} {n : Int} (h : hasL ls n = true) : 0 < n ∧ ∃ k, look ls n = some k := by
  unfold hasL at h
  rw [Bool.and_eq_true, decide_eq_true_eq] at h
  refine ⟨h.1, Option.isSome_iff_exists.1 ?_⟩
  rw [look_some]
  exact h.2
theorem fold_cong {A B : List Ln} : ∀ (ls : List Ln) (p : Nat × List Ins), (∀ l ∈ ls, l.lab = 0 → jmpB l.ins = true → look A l.to = look B l.to) → ls.foldl (stepI A) p = ls.foldl (stepI B) p
  | [], p, _ => rfl
  | l :: ls, p, h => by
    rw [List.foldl_cons, List.foldl_cons, fold_cong ls _ (fun x hx => h x (by simp [hx]))]
    congr 1
    unfold stepI
    by_cases h0 : l.lab = 0
    · have e : fixL A (p.1 + szL l) l = fixL B (p.1 + szL l) l := by
        unfold fixL
        by_cases hj : jmpB l.ins = true
        · rw [if_pos hj, if_pos hj, h l (by simp) h0 hj]
        · rw [if_neg hj, if_neg hj]
      rw [e]
    · rw [if_pos h0, if_pos h0]
include ha in
theorem ins_a (hua : upL a ≤ 1048576) (hok : okC a) : insL (a ++ b.map (ren d)) a = insL a a := by
  unfold insL
  rw [fold_cong (A := a ++ b.map (ren d)) (B := a) a _ (fun l hl h0 hj => ?_)]
  obtain ⟨pre, hf⟩ := okC_mem hua hok hl
  obtain ⟨hp, _⟩ := hasL_look (jmp_to hf h0 hj)
  rw [look_app]
  have hn : look (b.map (ren d)) l.to = none := by
    rw [← Option.isSome_eq_false_iff.trans Option.isNone_iff_eq_none, look_some]
    exact any_c b hp (ha l hl).2
  rw [hn]
include hd in
theorem ins_b : ∀ (ls : List Ln) (k : Nat), (∀ l ∈ ls, l.lab = 0 → jmpB l.ins = true → ∃ kk, look b l.to = some kk) → ((ls.map (ren d)).foldl (stepI (a ++ b.map (ren d))) (upL a + k, [])).2 = (ls.foldl (stepI b) (k, [])).2
  | [], k, _ => rfl
  | l :: ls, k, h => by
    rw [List.map_cons, List.foldl_cons, List.foldl_cons]
    have ih := ins_b ls (k + szL l) (fun x hx => h x (by simp [hx]))
    have e : stepI (a ++ b.map (ren d)) (upL a + k, []) (ren d l) = (upL a + (k + szL l), (stepI b (k, []) l).2) := by
      unfold stepI
      rw [szL_ren hd, show (ren d l).lab = rn d l.lab from rfl]
      by_cases h0 : l.lab = 0
      · rw [if_neg (by rw [Ne, rn_0 hd]; simpa using h0), if_neg (by simpa using h0)]
        have e2 : fixL (a ++ b.map (ren d)) (upL a + k + szL l) (ren d l) = fixL b (k + szL l) l := by
          unfold fixL
          rw [show (ren d l).ins = l.ins from rfl, show (ren d l).to = rn d l.to from rfl]
          by_cases hj : jmpB l.ins = true
          · rw [if_pos hj, if_pos hj]
            obtain ⟨kk, hk⟩ := h l (by simp) h0 hj
            rw [look_app, look_ren hd, hk]
            dsimp only [Option.getD_some]
            congr 1
            push_cast
            omega
          · rw [if_neg hj, if_neg hj]
        dsimp only
        rw [e2, Nat.add_assoc]
      · rw [if_pos (by rw [Ne, rn_0 hd]; exact h0), if_pos h0]
        dsimp only
        rw [Nat.add_assoc]
    rw [e, insG_fold, ih, insG_fold b ls (stepI b (k, []) l).1 (stepI b (k, []) l).2]
    rfl
include hd ha in
theorem ins_app (hua : upL a ≤ 1048576) (hub : upL b ≤ 1048576) (h1 : okC a) (h2 : okC b) : insL (a ++ b.map (ren d)) (a ++ b.map (ren d)) = insL a a ++ insL b b := by
  have e : insL (a ++ b.map (ren d)) (a ++ b.map (ren d)) = insL (a ++ b.map (ren d)) a ++ ((b.map (ren d)).foldl (stepI (a ++ b.map (ren d))) (upL a + 0, [])).2 := by
    unfold insL
    rw [List.foldl_append]
    have e2 : a.foldl (stepI (a ++ b.map (ren d))) (0, []) = (upL a + 0, (a.foldl (stepI (a ++ b.map (ren d))) (0, [])).2) := by
      refine Prod.ext ?_ rfl
      rw [fold_upI]
      simp
    rw [e2, insG_fold]
  rw [e, ins_a ha hua h1, ins_b hd b 0 (fun l hl h0 hj => ?_)]
  · rfl
  · obtain ⟨pre, hf⟩ := okC_mem hub h2 hl
    exact (hasL_look (jmp_to hf h0 hj)).2
theorem allOk_app (xs ys : List Ins) : allOk (xs ++ ys) = (allOk xs && allOk ys) := List.all_append
theorem catU_app (xs ys : List Ins) : catU (xs ++ ys) = catU xs ++ catU ys := by
  induction xs with
  | nil => rfl
  | cons x xs ih => simp only [List.cons_append, catU, ih, List.append_assoc]
include hd ha in
/-- **lines in two parts, none jumping into the other** -/
theorem byt_cut (h1 : a.length ≤ 1000) (h2 : b.length ≤ 1000) : (bytE (a ++ b.map (ren d)) = 0 ↔ bytE a = 0 ∧ bytE b = 0) ∧ (bytE (a ++ b.map (ren d)) = 0 → bytS (a ++ b.map (ren d)) = bytS a ++ bytS b) := by
  have hua : upL a ≤ 1048576 := by have := upL_le a; omega
  have hub : upL b ≤ 1048576 := by have := upL_le b; omega
  have hu : upL (a ++ b.map (ren d)) ≤ 1048576 := by
    rw [upL_app, upL_ren hd]
    have := upL_le a
    have := upL_le b
    omega
  have key : bytE (a ++ b.map (ren d)) = 0 ↔ bytE a = 0 ∧ bytE b = 0 := by
    rw [bytE_iff, bytE_iff, bytE_iff, okC_app hd ha hu]
    constructor
    · rintro ⟨⟨h3, h4⟩, h5⟩
      rw [ins_app hd ha hua hub h3 h4, allOk_app, Bool.and_eq_true] at h5
      exact ⟨⟨h3, h5.1⟩, h4, h5.2⟩
    · rintro ⟨⟨h3, h5⟩, h4, h6⟩
      refine ⟨⟨h3, h4⟩, ?_⟩
      rw [ins_app hd ha hua hub h3 h4, allOk_app, h5, h6]
      rfl
  refine ⟨key, fun h0 => ?_⟩
  obtain ⟨h3, h4⟩ := key.1 h0
  rw [bytE_iff] at h0 h3 h4
  rw [bytS_ok h0.1, bytS_ok h3.1, bytS_ok h4.1, ins_app hd ha hua hub h3.1 h4.1]
  unfold allS
  rw [allOk_app, h3.2, h4.2, Bool.and_true, if_pos rfl, if_pos rfl, if_pos rfl, catU_app, Is.strU_app]
end
end Ly
end Go.Proofs.YteppmkeoedddnaaDoor
