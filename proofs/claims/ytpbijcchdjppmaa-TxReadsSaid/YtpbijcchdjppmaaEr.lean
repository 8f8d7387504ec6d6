/- errors as numbers: gossamernum's Num and Is -/
import Derived.Test.YtpbijcchdjppmaaRows
import Derived.WalkKit
import Derived.ProofKit
namespace Go.Proofs.Ytpbijcchdjppmaa
open Go Go.RowKit
/-- an error of package api, by its number -/
abbrev erro (z : Int) : Value := .iface 44 (.int .i64 z)
/-- none at 0 -/
def errn (z : Int) : Value := if z = 0 then .nilIface else erro z
theorem num_nil (w : World) : Calls Try.prog 10 #[.nilIface] w fun e w' => e = .returned (.int .i64 0) ∧ w = w' := by
  go_enter Try.func10, Try.ntmps10
  go_wp2
  go_ret
  exact ⟨rfl, rfl⟩
theorem num_err (z : Int) (hz : (z != 0) = true) (w : World) : Calls Try.prog 10 #[erro z] w fun e w' => e = .returned (.int .i64 z) ∧ w = w' := by
  have hta : ∀ w : World, (Instr.typeAssert (.iface 44 (.int .i64 z)) 29 44 true).run Try.prog w = .ok (.tuple #[.int .i64 z, .bool true]) w := fun w => by kernel_rfl
  go_enter Try.func10, Try.ntmps10
  go_wp2
  go_ret
  exact ⟨rfl, rfl⟩
theorem num_any (z : Int) (w : World) : Calls Try.prog 10 #[errn z] w fun e w' => e = .returned (.int .i64 z) ∧ w = w' := by
  unfold errn
  split
  · rename_i h
    subst h
    exact num_nil w
  · rename_i h
    exact num_err z (by simp [h]) w
theorem is_erro (z : Int) (hz : (z != 0) = true) (w : World) : Calls Try.prog 17 #[erro z, .int .i64 z] w fun e w' => e = .returned (.bool true) ∧ w = w' := by
  go_enter Try.func17, Try.ntmps17
  go_wp2_with (first | (go_at_call 10; refine (num_err z hz _).mono ?_; rintro e w1 ⟨rfl, rfl⟩))
  go_ret
  exact ⟨rfl, rfl⟩
end Go.Proofs.Ytpbijcchdjppmaa
