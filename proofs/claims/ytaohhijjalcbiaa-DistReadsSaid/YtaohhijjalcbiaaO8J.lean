/-
  Package dist: what an error that was met is told as: errors.Is over a wrapped error of the project's own.
-/
import Derived.Test.YtaohhijjalcbiaaO8A
import Derived.Deep.LoopGhost
import Derived.LaidEql
import Derived.Stop.Asserts
import Derived.RowKitTokens
namespace Go.Proofs.Ytaohhijjalcbiaa
open Go.ChangeShapes Go.WideShapes Go.ChangeAt Go.RowKit Go.Extern.Stop Go.Stop Go.Extern
set_option linter.unusedVariables false
set_option linter.unusedSimpArgs false

theorem isTypeOf8 (v : Value) (w : World) : (Extern.ReflectliteType.typeOf #[.iface 27 v]).run Try.prog w = .ok (.iface 137 (.agg #[.pointer (some ⟨0, 27, none⟩)])) w := by kernel_rfl
theorem cm8 (w : World) : ((Extern.ReflectliteType.method fun t => do Go.Extern.Rtype.noPackHeld "Comparable" t; pure (.bool (← typeInfo t).comparable)) #[.agg #[.pointer (some ⟨0, 27, none⟩)]]).run Try.prog w = .ok (.bool true) w := by kernel_rfl
theorem mth8 (v : Value) (w : World) : (Go.method 281 137 v "Comparable").run Try.prog w = .ok (121, v) w := by kernel_rfl
theorem unw8 (v : Value) (w : World) : (Go.method 281 116 v "Unwrap").run Try.prog w = .ok (117, v) w := by kernel_rfl
theorem noIsS (v : Value) (xT : TypeId) (w : World) : (Instr.typeAssert (.iface 116 v) xT 139 true).run Try.prog w = .ok (.tuple #[.nilIface, .bool false]) w := run_typeAssert_lacksB Try.underlying139 (by kernel_rfl) (by kernel_rfl) v xT w
theorem hasUnwrapS (v : Value) (xT : TypeId) (w : World) : (Instr.typeAssert (.iface 116 v) xT 142 true).run Try.prog w = .ok (.tuple #[.iface 116 v, .bool true]) w := run_typeAssert_hasB Try.underlying142 (by kernel_rfl) v xT w
theorem noIsE8 (v : Value) (xT : TypeId) (w : World) : (Instr.typeAssert (.iface 27 v) xT 139 true).run Try.prog w = .ok (.tuple #[.nilIface, .bool false]) w := run_typeAssert_lacksB Try.underlying139 (by kernel_rfl) (by kernel_rfl) v xT w
theorem noUnwrapE8 (v : Value) (xT : TypeId) (w : World) : (Instr.typeAssert (.iface 27 v) xT 142 true).run Try.prog w = .ok (.tuple #[.nilIface, .bool false]) w := run_typeAssert_lacksB Try.underlying142 (by kernel_rfl) (by kernel_rfl) v xT w
theorem noUnwrapsE8 (v : Value) (xT : TypeId) (w : World) : (Instr.typeAssert (.iface 27 v) xT 144 true).run Try.prog w = .ok (.tuple #[.nilIface, .bool false]) w := run_typeAssert_lacksB Try.underlying144 (by kernel_rfl) (by kernel_rfl) v xT w
theorem eqlErr (a b : Int) (w : World) : (binOp .eql 69 (.iface 27 (.int .i64 a)) (.iface 27 (.int .i64 b))).run Try.prog w = .ok (.bool (a == b)) w := by kernel_rfl

theorem unwrap_c (v : Value) (hv : v.oneCell' = true) (n : Int) (w : World) : Calls Try.prog 117 #[.agg #[v, .int .i64 n]] w fun e w' => e = .returned v ∧ Below w.heap.size w w' := by
  go_enter Try.func117, Try.ntmps117
  go_wp2
  go_ret
  exact ⟨rfl, bel_box (Below.refl _ _) _⟩
set_option maxRecDepth 100000 in
theorem is_c (c n : Int) (r : Bool) (hr : (c == 31) = r) (w : World) :
    Calls Try.prog 84 #[.iface 116 (.agg #[.iface 27 (.int .i64 c), .int .i64 n]), .iface 27 (.int .i64 31), .bool true] w fun e w' => e = .returned (.bool r) ∧ Below w.heap.size w w' := by
  have nE := noIsE8
  have uE := noUnwrapE8
  have vE := noUnwrapsE8
  have nW := noIsS
  have uW := hasUnwrapS
  have mU := unw8
  have hU := fun u => unwrap_c (.iface 27 (.int .i64 c)) rfl n u
  have hty := run_eql_iface_types (P := Try.prog) 116 27 (.agg #[.iface 27 (.int .i64 c), .int .i64 n]) (.int .i64 31) Try.underlying69 (by decide) 
  have heq : ∀ w, (binOp .eql 69 (.iface 27 (.int .i64 c)) (.iface 27 (.int .i64 31))).run Try.prog w = .ok (.bool r) w := fun w => by rw [← hr]; exact eqlErr c 31 w
  clear hr
  cases r
  all_goals
    go_enter Try.func84, Try.ntmps84
    go_wp2_with (fail)
    refine wp_loop_rounds 2 ?_
    rw [rounds_succ]
    go_wp2_with (go_at_call 117; (with_reducible refine (hU _).mono ?_); rintro e w1 ⟨rfl, hb1⟩)
    rw [rounds_succ]
    go_wp2_with (fail)
    go_ret
    exact ⟨rfl, hb1⟩
set_option maxRecDepth 100000 in
theorem is8_c (c n : Int) (r : Bool) (hr : (c == 31) = r) (w : World) :
    Calls Try.prog 61 #[.iface 116 (.agg #[.iface 27 (.int .i64 c), .int .i64 n]), .iface 27 (.int .i64 31)] w fun e w' => e = .returned (.bool r) ∧ Below w.heap.size w w' := by
  have h8 := @run_callFunc_extern Try.prog 83 _ Extern.ReflectliteType.typeOf Try.func83 (by kernel_rfl) (by kernel_rfl) (by kernel_rfl) (by kernel_rfl)
  have h32 := @run_callFunc_extern Try.prog 121 _ (Extern.ReflectliteType.method fun t => do Go.Extern.Rtype.noPackHeld "Comparable" t; pure (.bool (← typeInfo t).comparable)) Try.func121 (by kernel_rfl) (by kernel_rfl) (by kernel_rfl) (by kernel_rfl)
  have tT := isTypeOf8
  have cT : ∀ w, (callFunc 121 #[.agg #[.pointer (some ⟨0, 27, none⟩)]]).run Try.prog w = .ok (.value (.bool true)) w := fun w => by
    have e := h32 (args := #[.agg #[.pointer (some ⟨0, 27, none⟩)]]) (w := w)
    rw [e, cm8]; rfl
  have mR := mth8
  have mU := unw8
  clear h32
  have nE := noIsE8
  have uE := noUnwrapE8
  have vE := noUnwrapsE8
  have nW := noIsS
  have uW := hasUnwrapS
  have hty := run_eql_iface_types (P := Try.prog) 116 27 (.agg #[.iface 27 (.int .i64 c), .int .i64 n]) (.int .i64 31) Try.underlying69 (by decide) 
  have heq : ∀ w, (binOp .eql 69 (.iface 27 (.int .i64 c)) (.iface 27 (.int .i64 31))).run Try.prog w = .ok (.bool r) w := fun w => by rw [← hr]; exact eqlErr c 31 w
  have hI := fun u => is_c c n r hr u
  clear nE uE vE nW uW hty heq mU hr
  go_enter Try.func61, Try.ntmps61
  go_wp2_with (go_at_call 84; (with_reducible refine (hI _).mono ?_); rintro e w1 ⟨rfl, hb1⟩)
  go_ret
  exact ⟨rfl, hb1⟩
/-- an error that was met -/
def spt (c n : Int) : Value := .iface 116 (.agg #[.iface 27 (.int .i64 c), .int .i64 n])
theorem told_c (c n : Int) (w : World) : Calls Try.prog 42 #[spt c n] w fun e w' => e = .returned (.int .i64 (if c = 31 then 31 else 23)) ∧ Below w.heap.size w w' := by
  unfold spt
  by_cases h : c = 31
  · rw [if_pos h]
    have hI := fun u => is8_c c n true (by simpa using h) u
    clear h
    go_enter Try.func42, Try.ntmps42
    go_wp2_with (go_at_call 61; (with_reducible refine (hI _).mono ?_); rintro e w1 ⟨rfl, hb1⟩)
    go_ret
    exact ⟨rfl, hb1⟩
  · rw [if_neg h]
    have hI := fun u => is8_c c n false (by simpa using h) u
    clear h
    go_enter Try.func42, Try.ntmps42
    go_wp2_with (go_at_call 61; (with_reducible refine (hI _).mono ?_); rintro e w1 ⟨rfl, hb1⟩)
    go_ret
    exact ⟨rfl, hb1⟩
end Go.Proofs.Ytaohhijjalcbiaa
