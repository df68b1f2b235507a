/-
  More words for memory and numbers: four cells, worlds that grew but for one block, the bytes of a number laid into a row. Nothing here speaks of the program.
-/
import Derived.Test.YtaohhijjalcbiaaAid
import Derived.Test.YtaohhijjalcbiaaBytes
import Derived.WalkSmall
import Derived.Deep.QuietTactic
import Derived.Deep.OwnRows
import Derived.Laws.BitsAllLaws
namespace Go.Proofs.Ytaohhijjalcbiaa
open Go.ChangeShapes Go.WideShapes Go.ChangeAt Go.RowKit
set_option linter.unusedVariables false

/-- four cells -/
def at4 (s : ByteArray) (p n c : Int) : Array Value := #[.string s, .int .i64 p, .int .i64 n, .int .i64 c]

theorem blk4 {w : World} {g : Nat} {t : TypeId} {s : ByteArray} {p n c : Int} (h : Blk w g t (at4 s p n c)) :
    (w.cell? ⟨g, 0, none⟩ = some (.string s) ∧ w.cell? ⟨g, 1, none⟩ = some (.int .i64 p) ∧ w.cell? ⟨g, 2, none⟩ = some (.int .i64 n) ∧ w.cell? ⟨g, 3, none⟩ = some (.int .i64 c)) ∧
    (w.frozen? ⟨g, 0, none⟩ = false ∧ w.frozen? ⟨g, 1, none⟩ = false ∧ w.frozen? ⟨g, 2, none⟩ = false ∧ w.frozen? ⟨g, 3, none⟩ = false) :=
  ⟨⟨blk_cell h 0, blk_cell h 1, blk_cell h 2, blk_cell h 3⟩, blk_frozen h 0, blk_frozen h 1, blk_frozen h 2, blk_frozen h 3⟩

theorem blk4_set {w : World} {g : Nat} {t : TypeId} {s s' : ByteArray} {p n c p' n' : Int} (h : Blk w g t (at4 s p n c)) :
    Blk (((w.setCell ⟨g, 0, none⟩ (.string s')).setCell ⟨g, 1, none⟩ (.int .i64 p')).setCell ⟨g, 2, none⟩ (.int .i64 n')) g t (at4 s' p' n' c) :=
  blk_set (blk_set (blk_set h 0 _) 1 _) 2 _
theorem blk4_err {w : World} {g : Nat} {t : TypeId} {s : ByteArray} {p n c c' : Int} (h : Blk w g t (at4 s p n c)) : Blk (w.setCell ⟨g, 3, none⟩ (.int .i64 c')) g t (at4 s p n c') :=
  blk_set h 3 _
theorem blk3_far {w : World} {g h : Nat} {t : TypeId} {cs : Array Value} (hb : Blk w g t cs) (hne : g ≠ h) (a b c : Value) : Blk (((w.setCell ⟨h, 0, none⟩ a).setCell ⟨h, 1, none⟩ b).setCell ⟨h, 2, none⟩ c) g t cs :=
  blk_far (blk_far (blk_far hb hne _) hne _) hne _
theorem blk2_far {w : World} {g h : Nat} {t : TypeId} {cs : Array Value} (hb : Blk w g t cs) (hne : g ≠ h) (a b : Value) : Blk ((w.setCell ⟨h, 0, none⟩ a).setCell ⟨h, 1, none⟩ b) g t cs :=
  blk_far (blk_far hb hne _) hne _
theorem below3 {B : Nat} {a w : World} {h : Nat} (hb : Below B a w) (hB : B ≤ h) (x y z : Value) : Below B a (((w.setCell ⟨h, 0, none⟩ x).setCell ⟨h, 1, none⟩ y).setCell ⟨h, 2, none⟩ z) :=
  ((hb.setCell hB _).setCell hB _).setCell hB _
theorem below2 {B : Nat} {a w : World} {h : Nat} (hb : Below B a w) (hB : B ≤ h) (x y : Value) : Below B a ((w.setCell ⟨h, 0, none⟩ x).setCell ⟨h, 1, none⟩ y) :=
  (hb.setCell hB _).setCell hB _
theorem blk_drew {w : World} {g : Nat} {t : TypeId} {cs : Array Value} (h : Blk w g t cs) : Blk w.drew g t cs := h
theorem blk_drewN {w : World} {g : Nat} {t : TypeId} {cs : Array Value} (h : Blk w g t cs) (n : Nat) : Blk (w.drewN n) g t cs := h

theorem grown_below {w w' : World} (h : Below w.heap.size w w') (row : Option Nat) : w.grownBy w' row := ⟨h.os, h.tape, h.output, h.size, fun k hk _ => h.block k hk⟩
theorem grown_drew {w u : World} {row : Option Nat} (h : w.grownBy u row) : w.grownBy u.drew row := ⟨h.os, h.tape, h.output, h.size, h.block⟩
theorem grown_drewN {w u : World} {row : Option Nat} (h : w.grownBy u row) (n : Nat) : w.grownBy (u.drewN n) row := ⟨h.os, h.tape, h.output, h.size, h.block⟩
theorem grown_set {w u : World} {g : Nat} (h : w.grownBy u (some g)) (i : Nat) (v : Value) : w.grownBy (u.setCell ⟨g, i, none⟩ v) (some g) :=
  ⟨h.os, h.tape, h.output, by simpa [World.setCell] using h.size, fun k hk hne => (Below.heap_setCell u ⟨g, i, none⟩ v k (fun e => hne (by rw [e]))).trans (h.block k hk hne)⟩
theorem grown_alloc {w u : World} {row : Option Nat} (h : w.grownBy u row) (o : Obj) : w.grownBy (u.alloc o) row :=
  ⟨h.os, h.tape, h.output, by simp; have := h.size; omega, fun k hk hne => (Below.heap_alloc u o k (by have := h.size; omega)).trans (h.block k hk hne)⟩
theorem grown_refl (w : World) (row : Option Nat) : w.grownBy w row := ⟨rfl, rfl, rfl, Nat.le_refl _, fun _ _ _ => rfl⟩
theorem grown_trans {a b c : World} {row : Option Nat} (h : a.grownBy b row) (k : b.grownBy c row) : a.grownBy c row :=
  ⟨k.os.trans h.os, k.tape.trans h.tape, k.output.trans h.output, Nat.le_trans h.size k.size, fun i hi hne => (k.block i (Nat.lt_of_lt_of_le hi h.size) hne).trans (h.block i hi hne)⟩
theorem blk_grown {w w' : World} {g : Nat} {t : TypeId} {cs : Array Value} {r : Nat} (h : Blk w g t cs) (hg : w.grownBy w' (some r)) (hne : g ≠ r) : Blk w' g t cs :=
  (hg.block g (blk_lt h) (fun e => hne (by simpa using e))).trans h
/-- what grew but for a block from B on is unchanged below B -/
theorem below_grown {B : Nat} {a w w' : World} {g : Nat} (h : Below B a w) (hg : w.grownBy w' (some g)) (hB : B ≤ w.heap.size) (hr : B ≤ g) : Below B a w' :=
  h.grown hg hB (fun k e => by have : g = k := by simpa using e
                               omega)

theorem quiet_eq {P : Program} {f : FuncId} {args : Array Value} {w : World} {n : Nat} {v : Value}
    (h : Calls P f args (w.drewN n) fun e w' => e = .returned v ∧ w.drewN n = w') : Calls P f args (w.drewN n) fun e w'' => e = .returned v ∧ ∃ m, w'' = w.drewN m :=
  h.mono fun _ _ ⟨he, hm⟩ => ⟨he, n, hm.symm⟩

/-- the bytes of T, the first i of k laid -/
def fillB (T k i : Nat) : Array Value := ((List.range k).map fun j => if j < i then Value.int .u8 ((T / 2 ^ (8 * j) % 256 : Nat) : Int) else .int .u8 0).toArray
theorem fillB_zero (T k : Nat) : madeCells #[.int .u8 0] k = fillB T k 0 := by
  unfold fillB madeCells
  apply Array.ext
  · simp
  · intro i h1 h2
    simp [Nat.mod_one]
theorem fillB_size (T k i : Nat) : (fillB T k i).size = k := by simp [fillB]
theorem fillB_at (T k i j : Nat) (h : j < (fillB T k i).size) : (fillB T k i)[j] = if j < i then Value.int .u8 ((T / 2 ^ (8 * j) % 256 : Nat) : Int) else .int .u8 0 := by
  unfold fillB
  simp
theorem fillB_set (T k i : Nat) (h : i < k) : (fillB T k i).setIfInBounds i (.int .u8 ((T / 2 ^ (8 * i) % 256 : Nat) : Int)) = fillB T k (i + 1) := by
  apply Array.ext
  · simp [fillB_size]
  · intro j h1 h2
    have hj : j < k := by rw [fillB_size] at h2; exact h2
    rw [Array.getElem_setIfInBounds (by rw [fillB_size]; exact hj)]
    by_cases e : i = j
    · subst e
      rw [if_pos rfl, fillB_at, if_pos (by omega)]
    · rw [if_neg e, fillB_at, fillB_at]
      by_cases hj : j < i
      · rw [if_pos hj, if_pos (by omega)]
      · rw [if_neg hj, if_neg (by omega)]
theorem fillB_get (T k i j : Nat) (h : j < k) : (fillB T k i)[j]? = some (if j < i then Value.int .u8 ((T / 2 ^ (8 * j) % 256 : Nat) : Int) else .int .u8 0) := by
  rw [Array.getElem?_eq_getElem (by rw [fillB_size]; exact h), fillB_at]
theorem next_byte (T x j : Nat) (hx : x = T / 2 ^ (8 * j)) : x / 256 = T / 2 ^ (8 * (j + 1)) := by
  rw [hx, Nat.div_div_eq_div_mul, show 8 * (j + 1) = 8 * j + 8 by omega, Nat.pow_add]
theorem fill_blk {w : World} {g T k j x : Nat} {t : TypeId} (h : Blk w g t (fillB T k j)) (hx : x = T / 2 ^ (8 * j)) (hj : j < k) : Blk (w.setCell ⟨g, j, none⟩ (.int .u8 ((x : Int) % 256))) g t (fillB T k (j + 1)) := by
  have h2 := blk_set h j (.int .u8 ((x : Int) % 256))
  have e : ((x : Int) % 256) = ((T / 2 ^ (8 * j) % 256 : Nat) : Int) := by rw [← hx]; simp
  rw [e] at h2 ⊢
  rwa [fillB_set T k j hj] at h2
theorem or_sum (P v N : Nat) (hP : P < 2 ^ N) (hN : N ≤ 7) (hv : v < 4294967296) (p : Int) (hp : (2 : Int) ^ N = p) :
    bits BinOp.or IntKind.u64 (IntKind.u64.wrap (P : Int)) (IntKind.u64.wrap ((v : Int) * p)) = ((P + v * 2 ^ N : Nat) : Int) := by
  have h7 : 2 ^ N ≤ 2 ^ 7 := Nat.pow_le_pow_right (by omega) hN
  have hm : v * 2 ^ N ≤ 4294967296 * 2 ^ N := Nat.mul_le_mul_right _ (by omega)
  have e : (v : Int) * p = ((v * 2 ^ N : Nat) : Int) := by rw [← hp]; simp
  rw [e, IntWalk.u64_in _ ⟨by omega, by omega⟩, IntWalk.u64_in _ ⟨by omega, by omega⟩, u64_or_nat _ _ (by omega) (by omega)]
  congr 1
  rw [Nat.or_comm, Nat.add_comm, Nat.mul_comm v, Nat.two_pow_add_eq_or_of_lt hP]

theorem pow_bounds (m : Nat) (h : m ≤ 32) : 1 ≤ (2 : Int) ^ m ∧ (2 : Int) ^ m ≤ 4294967296 := by
  rw [← pow_cast]
  have h1 := Nat.two_pow_pos m
  have h2 : 2 ^ m ≤ 2 ^ 32 := Nat.pow_le_pow_right (by omega) h
  omega

theorem div_test (v p : Int) (h0 : 0 ≤ v) (hp : 1 ≤ p) : (v / p == 0) = decide (v < p) := by
  by_cases h : v < p
  · rw [Int.ediv_eq_zero_of_lt h0 h]; simp [h]
  · have h1 : 1 ≤ v / p := (Int.le_ediv_iff_mul_le (by omega)).2 (by omega)
    have h2 : (v / p == 0) = false := by rw [beq_eq_false_iff_ne]; omega
    rw [h2]; simp [h]

end Go.Proofs.Ytaohhijjalcbiaa
