/-
  For all numbers a, b and size and every string s, IntsBack(a, b, size, s) returns true and changes no argument: a number is read from its field, a field is written from its number, and fields are ordered as their numbers from the last byte on. No condition.
-/
import Derived.Test.YtjflkjkkamapdaaRows
import Derived.Test.YtjflkjkkamapdaaBackA
import Derived.Test.YtjflkjkkamapdaaBackB
import Derived.WalkKit
import Derived.ProofKit
import Derived.OpenShut
import Derived.ShutString
import Derived.ChangeOld
import Derived.Below
namespace Go.Proofs.Ytjflkjkkamapdaa.intsBack
open Go.ChangeShapes Go.WideShapes Go.ChangeAt Go.RowKit
open Go.ChangeMaps (open_string shut_string)
set_option linter.unusedVariables false

theorem own : ownKnob Try.prog.godebug = none := by kernel_rfl

theorem i64_range {a : Int} (h : (Lit.int .i64 a).wf = true) : -9223372036854775808 ≤ a ∧ a ≤ 9223372036854775807 := by
  simpa [Lit.wf, IntKind.min, IntKind.max, IntKind.signed, IntKind.bits] using h
theorem u64_range {a : Int} (h : (Lit.int .u64 a).wf = true) : 0 ≤ a ∧ a ≤ 18446744073709551615 := by
  simpa [Lit.wf, IntKind.min, IntKind.max, IntKind.signed, IntKind.bits] using h

theorem bytes_size (n k : Nat) : (⟨(leB n k).toArray⟩ : ByteArray).size = k := by
  show (leB n k).toArray.size = k
  simp [leB_length]
theorem bytes_get (n k j : Nat) (h : j < (⟨(leB n k).toArray⟩ : ByteArray).size) : ((⟨(leB n k).toArray⟩ : ByteArray)[j]'h).toNat = n / 2 ^ (8 * j) % 256 := by
  have hj : j < (leB n k).length := by rw [leB_length]; rw [bytes_size] at h; exact h
  have e : (⟨(leB n k).toArray⟩ : ByteArray)[j]'h = (leB n k)[j]'hj := by
    show (leB n k).toArray[j]'(by simpa using hj) = _
    simp
  rw [e, leB_get]
  simp
theorem bytes_back (s : ByteArray) : (⟨(leB (nuB s.data.toList) s.size).toArray⟩ : ByteArray) = s := by
  have e : s.size = s.data.toList.length := by rw [Array.length_toList]; rfl
  rw [e, leB_nuB]

theorem walk (a0 : Int) (a1 : Int) (a2 : Int) (a3 : ByteArray) (w0 : (Lit.int .u64 a0).wf = true) (w1 : (Lit.int .u64 a1).wf = true) (w2 : (Lit.int .i64 a2).wf = true) (w3 : a3.size ≤ maxLen) (w : World) :
    Calls Try.prog 8 #[.int .u64 a0, .int .u64 a1, .int .i64 a2, .string a3] w fun e w' => e = .returned (.bool true) ∧ Below w.heap.size w w' := by
  obtain ⟨ha0, ha1⟩ := u64_range w0
  obtain ⟨hb0, hb1⟩ := u64_range w1
  obtain ⟨hz0, hz1⟩ := i64_range w2
  obtain ⟨a, rfl⟩ := Int.eq_ofNat_of_zero_le ha0
  obtain ⟨b, rfl⟩ := Int.eq_ofNat_of_zero_le hb0
  have hm0 : 0 ≤ a2 % 8 := by omega
  have hm1 : a2 % 8 ≤ 7 := by omega
  have hMod := fun u => mod_any a2 8 hz0 hz1 (by omega) (by omega) u
  generalize a2 % 8 = m at hm0 hm1 hMod
  obtain ⟨z, hz⟩ : ∃ z : Nat, (z : Int) = 1 + m := ⟨(1 + m).toNat, by omega⟩
  have hp := Nat.two_pow_pos (8 * z)
  have hA2 := Nat.mod_lt a hp
  have hB2 := Nat.mod_lt b hp
  have hpl := pow_le64 (b := 8 * z) (by omega)
  have e8 : ((8 * z : Nat) : Int) = 8 * (1 + m) := by omega
  have hLa := fun u => low_any a (8 * z) (by omega) (by omega) u
  have hLb := fun u => low_any b (8 * z) (by omega) (by omega) u
  rw [e8] at hLa hLb
  have hIa := fun u => little_ok (a % 2 ^ (8 * z)) z (by omega) (by omega) (by omega) hA2 u
  have hIb := fun u => little_ok (b % 2 ^ (8 * z)) z (by omega) (by omega) (by omega) hB2 u
  have hF := fun u => fieldLaw_any (a % 2 ^ (8 * z)) z (by omega) (by omega) (by omega) hA2 u
  rw [hz] at hIa hIb hF
  have hA3 : a % 2 ^ (8 * z) < 2 ^ (8 * (⟨(leB (a % 2 ^ (8 * z)) z).toArray⟩ : ByteArray).size) := by rw [bytes_size]; exact hA2
  have hB3 : b % 2 ^ (8 * z) < 2 ^ (8 * (⟨(leB (a % 2 ^ (8 * z)) z).toArray⟩ : ByteArray).size) := by rw [bytes_size]; exact hB2
  by_cases hs : a3.size < 1 ∨ 8 < a3.size
  · exact back_short a b a2 m _ _ (a % 2 ^ (8 * z)) (b % 2 ^ (8 * z)) _ _ a3 w hm0 hm1 hMod hLa hLb hIa hIb hF (by rw [bytes_size]; exact hz) (by rw [bytes_size]; exact hz) rfl rfl
      (fun j h => bytes_get _ _ j h) (fun j h => bytes_get _ _ j h) hA3 hB3 hs (by unfold maxLen at w3; omega)
  · have hn := nuB_lt a3.data.toList
    have hl : a3.data.toList.length = a3.size := by rw [Array.length_toList]; rfl
    rw [hl] at hn
    have hpn := pow_le64 (b := 8 * a3.size) (by omega)
    have hRd := fun u => read_ok a3 0 a3.size w3 (by omega) (by omega) (by omega) u
    have e1 : (a3.data.toList.drop 0).take a3.size = a3.data.toList := by rw [List.drop_zero, List.take_of_length_le (by omega)]
    have e2 : ((0 : Nat) : Int) + (a3.size : Int) = (a3.size : Int) := by omega
    rw [e1, e2] at hRd
    have hLt := fun u => little_ok (nuB a3.data.toList) a3.size (by omega) (by omega) (by omega) hn u
    rw [bytes_back] at hLt
    exact back_long a b a2 m _ _ (a % 2 ^ (8 * z)) (b % 2 ^ (8 * z)) _ _ a3 w hm0 hm1 hMod hLa hLb hIa hIb hF (by rw [bytes_size]; exact hz) (by rw [bytes_size]; exact hz) rfl rfl
      (fun j h => bytes_get _ _ j h) (fun j h => bytes_get _ _ j h) hA3 hB3 _ (by omega) (by omega) hRd hLt

set_option maxRecDepth 100000 in
theorem lifted (os : Os) (started : os.Started) (H : Type) (enc : TypeId × Value → H) :
    ReturnsInHanded {} Try.checked os 8 .any (Rows.intsBackSpec.pre6 enc Try.prog Try.f8 Rows.intsBackRow.domain false) (Rows.intsBackSpec.post enc Try.prog Try.f8 false true false false) := by
  refine returnsInHanded_of_change (C := Try.checked) own started (by kernel_rfl) Try.func8
    (ChangeSpec.witness6 (enc := enc) (C := Try.checked) false ⟨#[], #[.int .u64 0, .int .u64 0, .int .i64 0, .string ByteArray.empty], []⟩ 8 (by kernel_rfl) (by kernel_rfl) (by kernel_rfl) (by kernel_rfl)) ?_
  intro W base args ds gs before hval0 hW hcnd _
  have hval : ∀ (j : Nat) t v, Try.f8.params[j]? = some t → args[j]? = some v → Value.okWide Try.prog W .any base t v := hval0
  have hW' := hW
  obtain ⟨p, q, hA0, hV, rfl, hfz, hnd⟩ := hW
  have hA : DataW.TrodAll enc Try.prog W 0 (fun _ => true) true Try.f8.params.toList args.toList ds p := hA0
  rw [Try.params8] at hA hval
  obtain ⟨v0, vs0, d0, ds0, p0, q0, hargs, rfl, rfl, h0, r0⟩ := trodAll_cons hA
  obtain ⟨v1, vs1, d1, ds1, p1, q1, rfl, rfl, rfl, h1, r1⟩ := trodAll_cons r0
  obtain ⟨v2, vs2, d2, ds2, p2, q2, rfl, rfl, rfl, h2, r2⟩ := trodAll_cons r1
  obtain ⟨v3, vs3, d3, ds3, p3, q3, rfl, rfl, rfl, h3, r3⟩ := trodAll_cons r2
  obtain ⟨rfl, rfl, rfl⟩ := trodAll_nil r3
  obtain rfl : args = #[v0, v1, v2, v3] := by cases args; simp_all
  obtain ⟨rfl, rfl⟩ := trodVars_none hV
  obtain ⟨a0, rfl, rfl, rfl, w0⟩ := open_int Try.underlying22 (hval 0 22 v0 rfl rfl) h0
  obtain ⟨a1, rfl, rfl, rfl, w1⟩ := open_int Try.underlying22 (hval 1 22 v1 rfl rfl) h1
  obtain ⟨a2, rfl, rfl, rfl, w2⟩ := open_int Try.underlying3 (hval 2 3 v2 rfl rfl) h2
  obtain ⟨a3, rfl, rfl, rfl, w3⟩ := open_string Try.underlying9 (hval 3 9 v3 rfl rfl) h3
  clear hA0 hval0
  simp only [List.append_nil] at hW'
  refine (walk a0 a1 a2 a3 w0 w1 w2 w3 W).mono fun e W' ⟨he, hg⟩ => ?_
  subst he
  exact ⟨_, rfl, _, _, _, [], _, [], hW', (trodAll_cons_mk (shut_bool Try.underlying4 _) trodAll_mk0), (trodAll_cons_mk (shut_int Try.underlying22 w0) (trodAll_cons_mk (shut_int Try.underlying22 w1) (trodAll_cons_mk (shut_int Try.underlying3 w2) (trodAll_cons_mk (shut_string Try.underlying9 w3) trodAll_mk0)))), rfl, hg.frame _, fun h => by cases h⟩

theorem over : Rows.intsBackRow.holds Try.pinned (OpenSpec.ofChange Rows.intsBackSpec) :=
  OpenClaim.holds_of_wide 8 Try.f8 rfl rfl rfl rfl rfl rfl rfl ⟨rfl, rfl, rfl, rfl, rfl⟩ rfl rfl rfl rfl rfl (by kernel_rfl) Try.func8 (by kernel_rfl)
    (of_decide_eq_true (by kernel_rfl)) (by unfold Func.isWrapper; first | (rw [if_pos (by decide +kernel)]; kernel_rfl) | (rw [if_neg (by decide +kernel)]; exact ⟨rfl, rfl⟩))
    (fun os started H enc _ => lifted os started H enc)

theorem proved : Rows.IntsBackSaid :=
  over
end Go.Proofs.Ytjflkjkkamapdaa.intsBack
