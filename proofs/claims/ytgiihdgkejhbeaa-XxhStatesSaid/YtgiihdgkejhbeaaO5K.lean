/-
  The project's states as those of a string: parts are the whole.
-/
import Derived.Test.YtgiihdgkejhbeaaO5J
namespace Go.Proofs.Ytgiihdgkejhbeaa
open Go.ChangeShapes Go.WideShapes Go.ChangeAt Go.RowKit
set_option linter.unusedVariables false

theorem tb_fuel (f g : Nat) (L : L4) (l : List UInt8) (hf : l.length ≤ f) (hg : l.length ≤ g) : tb f L l = tb g L l := by
  induction f generalizing g L l with
  | zero =>
    have h : ¬ 32 ≤ l.length := by omega
    rw [tb_end _ _ _ h, tb_end _ _ _ h]
  | succ f ih =>
    by_cases h : 32 ≤ l.length
    · obtain ⟨g', rfl⟩ : ∃ g', g = g' + 1 := ⟨g - 1, by omega⟩
      rw [tb_32 f L l h, tb_32 g' L l h]
      exact ih g' _ _ (by rw [List.length_drop]; omega) (by rw [List.length_drop]; omega)
    · rw [tb_end _ _ _ h, tb_end _ _ _ h]
theorem tl_fuel (f g : Nat) (l : List UInt8) (hf : l.length ≤ f) (hg : l.length ≤ g) : tl f l = tl g l := by
  induction f generalizing g l with
  | zero =>
    have h : ¬ 32 ≤ l.length := by omega
    rw [tl_end _ _ h, tl_end _ _ h]
  | succ f ih =>
    by_cases h : 32 ≤ l.length
    · obtain ⟨g', rfl⟩ : ∃ g', g = g' + 1 := ⟨g - 1, by omega⟩
      rw [tl_32 f l h, tl_32 g' l h]
      exact ih g' _ (by rw [List.length_drop]; omega) (by rw [List.length_drop]; omega)
    · rw [tl_end _ _ h, tl_end _ _ h]
theorem tl_drop (f : Nat) (l : List UInt8) (hf : l.length ≤ f) : tl f l = l.drop (l.length - l.length % 32) := by
  induction f generalizing l with
  | zero =>
    have h : ¬ 32 ≤ l.length := by omega
    rw [tl_end _ _ h, show l.length - l.length % 32 = 0 by omega, List.drop_zero]
  | succ f ih =>
    by_cases h : 32 ≤ l.length
    · rw [tl_32 f l h, ih _ (by rw [List.length_drop]; omega), List.length_drop, List.drop_drop]
      congr 1
      omega
    · rw [tl_end _ _ h, show l.length - l.length % 32 = 0 by omega, List.drop_zero]
theorem tl_len (f : Nat) (l : List UInt8) (hf : l.length ≤ f) : (tl f l).length = l.length % 32 := by
  rw [tl_drop f l hf, List.length_drop]
  omega
theorem tb_app (f g h : Nat) (L : L4) (a b : List UInt8) (hf : a.length ≤ f) (hg : (tl f a ++ b).length ≤ g) (hh : (a ++ b).length ≤ h) :
    tb g (tb f L a) (tl f a ++ b) = tb h L (a ++ b) ∧ tl g (tl f a ++ b) = tl h (a ++ b) := by
  induction f generalizing L a h with
  | zero =>
    have hn : a = [] := List.eq_nil_of_length_eq_zero (by omega)
    subst hn
    exact ⟨tb_fuel _ _ _ _ hg hh, tl_fuel _ _ _ hg hh⟩
  | succ f ih =>
    by_cases h32 : 32 ≤ a.length
    · have hl : 32 ≤ (a ++ b).length := by rw [List.length_append]; omega
      obtain ⟨h', rfl⟩ : ∃ h', h = h' + 1 := ⟨h - 1, by omega⟩
      have e1 : (a ++ b).take 32 = a.take 32 := by rw [List.take_append, show 32 - a.length = 0 by omega, List.take_zero, List.append_nil]
      have e2 : (a ++ b).drop 32 = a.drop 32 ++ b := by rw [List.drop_append, show 32 - a.length = 0 by omega, List.drop_zero]
      rw [tl_32 f a h32] at hg ⊢
      rw [tb_32 f L a h32, tb_32 h' L _ hl, tl_32 h' _ hl, e1, e2]
      exact ih h' _ _ (by rw [List.length_drop]; omega) hg (by rw [← e2, List.length_drop]; omega)
    · rw [tl_end _ _ h32] at hg ⊢
      rw [tb_end _ _ _ h32]
      exact ⟨tb_fuel _ _ _ _ hg hh, tl_fuel _ _ _ hg hh⟩

/-- the state of a string -/
def sL (e : Int) (x : ByteArray) : L4 := adL (fst e) ⟨#[]⟩ x
def sT (x : ByteArray) : ByteArray := adT ⟨#[]⟩ x
theorem sL_eq (e : Int) (x : ByteArray) : sL e x = tb x.size (fst e) x.data.toList := by
  show tb (0 + x.size) (fst e) x.data.toList = _
  rw [Nat.zero_add]
theorem sT_list (x : ByteArray) : (sT x).data.toList = tl x.size x.data.toList := by
  show tl (0 + x.size) x.data.toList = _
  rw [Nat.zero_add]
theorem sT_size (x : ByteArray) : (sT x).size = x.size % 32 := by
  have h := tl_len x.size x.data.toList (Nat.le_refl _)
  rw [← sT_list] at h
  exact h
theorem ad_s (e : Int) (x y : ByteArray) : adL (sL e x) (sT x) y = sL e (x ++ y) ∧ adT (sT x) y = sT (x ++ y) := by
  have hxy : (x ++ y).data.toList = x.data.toList ++ y.data.toList := cat_list x y
  have hsz : (x ++ y).size = x.size + y.size := ByteArray.size_append
  have h := tb_app x.size ((sT x).size + y.size) (x ++ y).size (fst e) x.data.toList y.data.toList (Nat.le_refl _)
    (by rw [← sT_list, List.length_append]; exact Nat.le_refl _) (by rw [← hxy]; exact Nat.le_refl _)
  constructor
  · rw [sL_eq e (x ++ y), sL_eq e x, hxy, ← h.1, ← sT_list]
    rfl
  · have h2 : (adT (sT x) y).data.toList = (sT (x ++ y)).data.toList := by
      rw [sT_list, hxy, ← h.2, ← sT_list]
      rfl
    rw [← ba_list (adT (sT x) y), h2, ba_list]
theorem vld_s (e : Int) (x : ByteArray) (hx : x.size ≤ 1099511627776) : vldOk (sL e x).a (sL e x).b (sL e x).c (sL e x).d x.size (sT x) e := by
  refine ⟨by omega, by omega, by rw [sT_size]; omega, ?_⟩
  by_cases h : 32 ≤ x.size
  · exact .inl (by omega)
  · refine .inr ?_
    rw [sL_eq, tb_end _ _ _ (show ¬ 32 ≤ x.data.toList.length from h)]
    exact ⟨rfl, rfl, rfl, rfl⟩

theorem add_s (e : Int) (x y z : ByteArray) (hz : x ++ y = z) (T2 : Int) (hT : (z.size : Int) = T2) (h : z.size ≤ 1099511627776) (w : World) :
    Calls Try.prog 16 #[.agg #[.int .u64 (sL e x).a, .int .u64 (sL e x).b, .int .u64 (sL e x).c, .int .u64 (sL e x).d, .int .i64 (x.size : Int), .string (sT x), .int .u64 e], .string y] w fun r w' => r = .returned (.tuple #[.agg #[.int .u64 (sL e z).a, .int .u64 (sL e z).b, .int .u64 (sL e z).c, .int .u64 (sL e z).d, .int .i64 T2, .string (sT z), .int .u64 e], .int .i64 0]) ∧ Below w.heap.size w w' := by
  have hs : (x ++ y).size = x.size + y.size := ByteArray.size_append
  rw [hz] at hs
  have h2 := sT_size x
  have ha := add_ok (sL e x) x.size (sT x) e y (vld_s e x (by omega)) (by omega) (by omega) w
  rw [(ad_s e x y).1, (ad_s e x y).2, hz, show (x.size : Int) + y.size = T2 by omega] at ha
  exact ha
theorem sum_s (e : Int) (x : ByteArray) (T : Int) (hT : (x.size : Int) = T) (h : x.size ≤ 1099511627776) (w : World) :
    Calls Try.prog 18 #[.agg #[.int .u64 (sL e x).a, .int .u64 (sL e x).b, .int .u64 (sL e x).c, .int .u64 (sL e x).d, .int .i64 T, .string (sT x), .int .u64 e]] w fun r w' => r = .returned (.tuple #[.int .u64 (seedW e x), .int .i64 0]) ∧ Below w.heap.size w w' := by
  subst hT
  have h2 := sT_size x
  exact sum_ok _ _ _ _ _ _ _ (by omega) (vld_s e x h) w
theorem check_s (e : Int) (x : ByteArray) (T : Int) (hT : (x.size : Int) = T) (h : x.size ≤ 1099511627776) (w : World) :
    Calls Try.prog 20 #[.agg #[.int .u64 (sL e x).a, .int .u64 (sL e x).b, .int .u64 (sL e x).c, .int .u64 (sL e x).d, .int .i64 T, .string (sT x), .int .u64 e]] w fun r w' => r = .returned (.int .i64 0) ∧ Below w.heap.size w w' := by
  subst hT
  have hc := check_any (sL e x).a (sL e x).b (sL e x).c (sL e x).d x.size (sT x) e w
  rw [if_pos (vld_s e x h)] at hc
  exact hc
theorem new_s (e : Int) (w : World) : Calls Try.prog 22 #[.int .u64 e] w fun r w' =>
    r = .returned (.agg #[.int .u64 (sL e ⟨#[]⟩).a, .int .u64 (sL e ⟨#[]⟩).b, .int .u64 (sL e ⟨#[]⟩).c, .int .u64 (sL e ⟨#[]⟩).d, .int .i64 0, .string (sT ⟨#[]⟩), .int .u64 e]) ∧ Below w.heap.size w w' := new_any e w
end Go.Proofs.Ytgiihdgkejhbeaa
