/- The walk of MemoryNil. -/
import Derived.Test.YtkgbpcfpppceiaaA12
namespace Go.Proofs.Ytkgbpcfpppceiaa
open Go Go.RowKit
namespace memoryNil
open Wd Nt Mm
set_option linter.unusedVariables false
set_option maxRecDepth 100000 in
set_option maxHeartbeats 4000000 in
theorem walk_ {R : World → Nat → Nat → Value → List Reg → Prop} (mc : MemC R) (w : World) (a0 a1 a2 : Int) (w0 : (Lit.int .u64 a0).wf = true) (w1 : (Lit.int .u64 a1).wf = true) (w2 : (Lit.int .i64 a2).wf = true) :
    Calls Try.prog 5 #[.int .u64 a0, .int .u64 a1, .int .i64 a2] w fun e w' => e = .returned (.bool true) ∧ Below w.heap.size w w' := by
  have L1 := Lib.hid (lives_c mc w)
  have KL := fun W => Lib.hid (mc.loadN W a0 (u64_W w0))
  have KS := fun W => Lib.hid (mc.storeN W a0 a1 (u64_W w0) (u64_W w1))
  have KB := fun W => Lib.hid (mc.bytesN W a0 a2 (u64_W w0) w2)
  have KR := fun W => Lib.hid (mc.regionsN W)
  have KC := fun W => Lib.hid (mc.cloneN W)
  go_enter Try.func5, Try.ntmps5
  try simp only [List.append]
  go_wp2_with fail
  go_at_call 9
  refine L1.out.mono ?_
  rintro e x1 ⟨rfl, hb⟩
  have HB := Lib.hid hb
  clear hb L1
  go_wp2_with fail
  go_at_call 13
  refine (KL _).out.mono ?_
  rintro e x2 ⟨rfl, hb⟩
  replace HB := Lib.hid (bel_trans HB.out hb)
  clear hb KL
  go_wp2_with fail
  go_at_call 14
  refine (KB _).out.mono ?_
  rintro e x3 ⟨rfl, hb⟩
  replace HB := Lib.hid (bel_trans HB.out hb)
  clear hb KB
  go_wp2_with fail
  go_at_call 12
  refine (KS _).out.mono ?_
  rintro e x4 ⟨rfl, hb⟩
  replace HB := Lib.hid (bel_trans HB.out hb)
  clear hb KS
  go_wp2_with fail
  go_at_call 16
  refine (KR _).out.mono ?_
  rintro e x5 ⟨⟨A, c, rfl⟩, hb⟩
  replace HB := Lib.hid (bel_trans HB.out hb)
  clear hb KR
  go_wp2_with fail
  go_at_call 15
  refine (KC _).out.mono ?_
  rintro e x6 ⟨rfl, hb⟩
  replace HB := Lib.hid (bel_trans HB.out hb)
  clear hb KC
  go_wp2_with fail
  go_ret
  exact ⟨rfl, HB.out⟩
end memoryNil
end Go.Proofs.Ytkgbpcfpppceiaa
