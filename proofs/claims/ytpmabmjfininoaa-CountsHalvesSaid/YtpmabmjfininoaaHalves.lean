/-
  CountsHalves.
-/
import Derived.Test.YtpmabmjfininoaaAdds
import Derived.Test.YtpmabmjfininoaaModK
import Derived.Test.YtpmabmjfininoaaApn
namespace Go.Proofs.Ytpmabmjfininoaa
open Go.ChangeShapes Go.WideShapes Go.ChangeAt Go.RowKit Go.Shelf
set_option linter.unusedVariables false
set_option linter.unusedSimpArgs false

/-- the bound of counts that were halved so often -/
def bnd : Nat → Int
  | 0 => 1000000
  | k + 1 => bnd k - bnd k / 2
theorem bnd_le : ∀ k, 0 ≤ bnd k ∧ bnd k ≤ 1000000
  | 0 => ⟨by decide, by decide⟩
  | k + 1 => by have := bnd_le k; show 0 ≤ bnd k - bnd k / 2 ∧ bnd k - bnd k / 2 ≤ 1000000; omega
theorem bnd_end : bnd 20 = 1 := by decide
/-- counts between 0 and a bound, at most 60 of them -/
def Upto (b : Int) (n : Nat) (L : List Int) : Prop := L.length = n ∧ n ≤ 60 ∧ ∀ k, k < n → 0 ≤ L.getD k 0 ∧ L.getD k 0 ≤ b
theorem upto_mem {b : Int} {n : Nat} {L : List Int} (h : Upto b n L) : ∀ x ∈ L, 0 ≤ x ∧ x ≤ b := fun x hx => by
  obtain ⟨k, hk, rfl⟩ := List.mem_iff_getElem.1 hx
  have e : L.getD k 0 = L[k] := by simp [List.getD, hk]
  rw [← e]
  exact h.2.2 k (by have := h.1; omega)
theorem sum_le (b : Int) : ∀ L : List Int, (∀ x ∈ L, x ≤ b) → L.sum ≤ (L.length : Int) * b
  | [], _ => by simp
  | x :: L, h => by
    have h1 := sum_le b L (fun y hy => h y (List.mem_cons_of_mem _ hy))
    have h2 := h x (List.mem_cons_self ..)
    rw [List.sum_cons, List.length_cons]
    push_cast
    rw [Int.add_mul]
    omega
theorem upto_chk {b : Int} {n : Nat} {L : List Int} (h : Upto b n L) (hb : b ≤ 1000000) : chk L = 0 := by
  have hm := upto_mem h
  have hl := h.1
  have h60 := h.2.1
  have hs := sum_le 1000000 L (fun x hx => by have := hm x hx; omega)
  have h2 := (sumUp_sum L 0 (fun x hx => (hm x hx).1) (Int.le_refl _) (by omega)).1
  unfold chk
  rw [if_neg (by omega), h2]; rfl
theorem upto_half {k n : Nat} {L : List Int} (h : Upto (bnd k) n L) : Upto (bnd (k + 1)) n (hlv L) :=
  ⟨(hlv_length L).trans h.1, h.2.1, fun j hj => by
    rw [hlv_getD]
    have := h.2.2 j hj
    show 0 ≤ L.getD j 0 - L.getD j 0 / 2 ∧ L.getD j 0 - L.getD j 0 / 2 ≤ bnd k - bnd k / 2
    omega⟩
theorem halve_h {A : Option Addr} {n k : Nat} {L : List Int} (cap : Nat) {w : World} (h : IntsAt w w.heap.size A L) (hu : Upto (bnd k) n L) :
    Calls Try.prog 24 #[.slice A n cap] w fun e w' => ∃ A' c, e = .returned (.tuple #[.slice A' n c, .int .i64 0]) ∧ IntsAt w' w'.heap.size A' (hlv L) ∧ Below w.heap.size w w' := by
  have hc := upto_chk hu (bnd_le k).2
  have kk := halve_c (A := A) (n := n) cap (w := w) ⟨hu.1, by have := hu.2.1; omega, h⟩
  refine Calls.mono kk ?_
  rintro e w' ⟨A', c, rfl, h1, h2⟩
  have e1 : halL L = hlv L := by unfold halL; rw [if_pos hc]
  rw [e1] at h1 ⊢
  rw [hc, hlv_length, hu.1]
  exact ⟨A', c, rfl, h1, h2⟩
theorem upto_snoc {b : Int} {n : Nat} {L : List Int} (h : Upto b n L) (hn : n < 60) (x : Int) (h0 : 0 ≤ x) (h1 : x ≤ b) : Upto b (n + 1) (L ++ [x]) := by
  refine ⟨by rw [List.length_append, h.1]; rfl, by omega, fun k hk => ?_⟩
  by_cases hkn : k < n
  · have e : (L ++ [x]).getD k 0 = L.getD k 0 := by simp [List.getD, List.getElem?_append_left (show k < L.length by rw [h.1]; exact hkn)]
    rw [e]; exact h.2.2 k hkn
  · obtain rfl : k = n := by omega
    have e : (L ++ [x]).getD k 0 = x := by
      have hl := h.1
      simp [List.getD, List.getElem?_append_right (show L.length ≤ k by omega), hl]
    rw [e]; exact ⟨h0, h1⟩
theorem upto_nil (b : Int) : Upto b 0 [] := ⟨rfl, by omega, fun k hk => absurd hk (by omega)⟩

set_option maxRecDepth 100000 in
set_option maxHeartbeats 4000000 in
theorem countsHalves_any (A : Option Addr) (n cap : Nat) (xs : List Int) (w : World) (h : Cts w A n xs) (hr : ∀ x ∈ xs, -9223372036854775808 ≤ x ∧ x ≤ 9223372036854775807) :
    Calls Try.prog 7 #[.slice A n cap] w fun e w' => e = .returned (.bool true) ∧ Below w.heap.size w w' := by
  obtain ⟨hl, hn, hI⟩ := h
  subst hl
  have HI := Lib.hid hI
  have HR := Lib.hid hr
  clear hI hr
  go_enter Try.func7, Try.ntmps7
  go_wp2_with (go_at_call 5; (with_reducible refine Calls.mono (known_any _) ?_); rintro e w1 ⟨rfl, hb⟩; have HB := Lib.hid hb; have hs1 := hb.size; clear hb)
  have hnil := World.ownsRow_nil w1 w.heap.size 3 1
  go_loopw [4, 5] (fun v i wr => ∃ (k : Nat) (ys : List Int), k ≤ xs.length ∧ k ≤ 60 ∧ Hid (Upto 1000000 k ys) ∧ i = .int .i64 (k : Int) ∧ wr.ownsRow w.heap.size 3 1 v k (ys.map (Value.int .i64)) ∧ Below w.heap.size w wr) (fun _ i _ => 60 - (intOf i).toNat)
  case atStart => exact ⟨0, [], by omega, by omega, upto_nil _, rfl, hnil, HB.out⟩
  case round =>
    obtain ⟨k, ys, hk, hk6, hu, rfl, hown, hbw⟩ := hrel
    by_cases hgo : k < xs.length ∧ k < 60
    · obtain ⟨hlt, hl6⟩ := hgo
      obtain ⟨b, off, hA, hb, hc⟩ := HI.out (by omega)
      subst hA
      have hcell := (hbw.cell (p := ⟨b, off + k, none⟩) hb).trans (hc k hlt)
      have hz := HR.out (xs.getD k 0) (by
        have e : xs.getD k 0 = xs[k] := by simp [List.getD, hlt]
        rw [e]; exact List.getElem_mem hlt)
      clear hc
      generalize xs.getD k 0 = z at *
      have hM := mod_any z 1000001 hz.1 hz.2 (by omega) (by omega)
      have hu2 : Hid (Upto 1000000 (k + 1) (ys ++ [z % 1000001])) := Lib.hid (upto_snoc hu.out hl6 _ (by omega) (by omega))
      generalize z % 1000001 = y at *
      clear hz hu
      go_wp2_with (first
        | (go_at_call 35; (with_reducible refine Calls.mono (hM _) ?_); rintro e w' ⟨rfl, rfl⟩)
        | (at_builtin; refine append_one rfl (.tmp 22) (.tmp 28) rfl w.heap.size u4 k ys y rfl hown rfl ?c1 ?c2 ?_))
      case c1 => omega
      case c2 => exact hbw.size
      intro v' w' hown2 hg
      have hlt' := hown.lt
      have hb' := (hbw.alloc hbw.size (.cells #[.int .i64 y] 3)).grown hg (by have := hbw.size; simp; omega) (fun q hq => (hlt' q hq).1)
      have hown3 := Lib.hid hown2
      clear hown2 hown hg hlt'
      go_wp2
      go_roundw
      case rel => exact ⟨k + 1, _, by omega, by omega, hu2, by go_num, by rw [List.map_append]; exact hown3.out, hb'⟩
      case measure => simp [intOf]; omega
    · obtain ⟨A0, c0, rfl, hI0⟩ := ints_of_own hown
      have hly : ys.length = k := hu.out.1
      rw [hly]
      obtain ⟨wo, rfl⟩ : ∃ wo : World, wo = wr := ⟨_, rfl⟩
      have H0 := Lib.hid hI0
      have HBW := Lib.hid hbw
      have hu0 : Hid (Upto (bnd 0) k ys) := hu
      clear hown hI0 hbw hly hu
      by_cases hgl : k < xs.length
      all_goals
        go_wp2
        go_loopw [4, 6, 7, 8, 9] (fun v q _ _ _ wr => ∃ (j : Nat) (L : List Int) (A' : Option Addr) (c' : Nat), j ≤ 20 ∧ Hid (Upto (bnd j) k L) ∧ q = .int .i64 (j : Int) ∧ v = .slice A' k c' ∧ Hid (IntsAt wr wr.heap.size A' L) ∧ Hid (Below w.heap.size w wr)) (fun _ q _ _ _ _ => 20 - (intOf q).toNat)
        case atStart => exact ⟨0, ys, A0, c0, by omega, hu0, rfl, rfl, H0, HBW⟩
        case round =>
          obtain ⟨j, L, A1, c1, hj, hu, rfl, rfl, hI, hB⟩ := hrel
          by_cases hj2 : j < 20
          · have hh := halve_h c1 hI.out hu.out
            have hu3 : Hid (Upto (bnd (j + 1)) k (hlv L)) := Lib.hid (upto_half hu.out)
            go_wp2_with (go_at_call 24; (with_reducible refine Calls.mono hh ?_); rintro e w3 ⟨A2, c2, rfl, h2, hb2⟩; have HL := Lib.hid (nextI hI.out hb2); have HB3 := Lib.hid (below_call hB.out hb2); have H2 := Lib.hid h2; clear h2 hb2 hh)
            go_loopw [9] (fun i wr => ∃ (i0 m : Nat), i0 ≤ k ∧ i = .int .i64 (i0 : Int) ∧ wr = w3.drewN m) (fun i _ => k - (intOf i).toNat)
            case atStart => exact ⟨0, 0, by omega, rfl, rfl⟩
            case round =>
              obtain ⟨i0, m, hi0, rfl, rfl⟩ := hrel
              by_cases hlt : i0 < k
              · obtain ⟨b1, o1, hA1, _, q1⟩ := HL.out (by rw [hu.out.1]; omega)
                obtain ⟨b2, o2, hA2, _, q2⟩ := H2.out (by rw [hu3.out.1]; omega)
                subst hA1 hA2
                have e1 := q1 i0 (by rw [hu.out.1]; exact hlt)
                have e2 := q2 i0 (by rw [hu3.out.1]; exact hlt)
                have hy := hlv_getD L i0
                have hx0 := hu.out.2.2 i0 hlt
                by_cases hz : i0 = 0
                · have d0 : decide (0 < i0) = false := decide_eq_false (by omega)
                  clear q1 q2 hz
                  generalize L.getD i0 0 = x at *
                  generalize (hlv L).getD i0 0 = y at *
                  obtain ⟨β, d1, d2⟩ : ∃ β, decide (0 < x) = β ∧ decide (0 < y) = β := ⟨_, rfl, by rw [hy]; apply decide_eq_decide.2; omega⟩
                  clear hy hx0
                  go_wp2
                  go_quiet (fail)
                  go_wp2
                  go_roundw
                  case rel => exact ⟨i0 + 1, _, by omega, by go_num, rfl⟩
                  case measure => simp [intOf]; omega
                · have d0 : decide (0 < i0) = true := decide_eq_true (by omega)
                  obtain ⟨i1, hi1⟩ : ∃ i1, i0 = i1 + 1 := ⟨i0 - 1, by omega⟩
                  have HI1 := Lib.hid hi1
                  have hl1 : i1 < k := by omega
                  have hsub : (i0 : Int) - 1 = (i1 : Int) := by omega
                  have e3 := q1 i1 (by rw [hu.out.1]; exact hl1)
                  have e4 := q2 i1 (by rw [hu3.out.1]; exact hl1)
                  have hy1 := hlv_getD L i1
                  have hx1 := hu.out.2.2 i1 hl1
                  clear q1 q2 hz hi1
                  generalize L.getD i0 0 = x at *
                  generalize (hlv L).getD i0 0 = y at *
                  generalize L.getD i1 0 = x1 at *
                  generalize (hlv L).getD i1 0 = y1 at *
                  obtain ⟨β, d1, d2⟩ : ∃ β, decide (0 < x) = β ∧ decide (0 < y) = β := ⟨_, rfl, by rw [hy]; apply decide_eq_decide.2; omega⟩
                  by_cases hle : x1 ≤ x
                  · have d3 : decide (x1 ≤ x) = true := decide_eq_true hle
                    have d4 : decide (y < y1) = false := decide_eq_false (by rw [hy, hy1]; omega)
                    clear hy hy1 hx0 hx1 hle
                    go_wp2
                    go_quiet (fail)
                    go_wp2
                    go_roundw
                    case rel => exact ⟨i0 + 1, _, by omega, by go_num, rfl⟩
                    case measure => simp [intOf]; omega
                  · have d3 : decide (x1 ≤ x) = false := decide_eq_false hle
                    clear hy hy1 hx0 hx1 hle
                    go_wp2
                    go_quiet (fail)
                    go_wp2
                    go_roundw
                    case rel => exact ⟨i0 + 1, _, by omega, by go_num, rfl⟩
                    case measure => simp [intOf]; omega
              · obtain rfl : i0 = k := by omega
                go_wp2
                go_roundw
                case rel => exact ⟨j + 1, hlv L, A2, c2, by omega, hu3, by go_num, rfl, Lib.hid (nextI H2.out (Below.drewN' (Below.refl _ _) _)), Lib.hid (Below.drewN' HB3.out _)⟩
                case measure => simp [intOf]; omega
          · obtain rfl : j = 20 := by omega
            have hone := hu.out
            rw [bnd_end] at hone
            have HO := Lib.hid hone
            clear hone
            go_wp2
            go_loop [10] (fun i => ∃ (i0 : Nat), i0 ≤ k ∧ i = .int .i64 (i0 : Int)) (fun i => k - (intOf i).toNat)
            case atStart => exact ⟨0, by omega, rfl⟩
            case round =>
              obtain ⟨i0, hi0, rfl⟩ := hrel
              by_cases hlt : i0 < k
              · obtain ⟨b1, o1, hA1, _, q1⟩ := hI.out (by rw [HO.out.1]; omega)
                subst hA1
                have e1 := q1 i0 (by rw [HO.out.1]; exact hlt)
                have hx0 := (HO.out.2.2 i0 hlt).2
                generalize L.getD i0 0 = x at *
                have d1 : decide (1 < x) = false := decide_eq_false (by omega)
                clear q1 hx0
                go_wp2
                go_round
                case rel => exact ⟨i0 + 1, by omega, by go_num⟩
                case measure => simp [intOf]; omega
              · obtain rfl : i0 = k := by omega
                go_wp2
                go_ret
                exact ⟨rfl, hB.out⟩
end Go.Proofs.Ytpmabmjfininoaa
