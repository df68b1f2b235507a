/-
  The reference's checksum: end.
-/
import Derived.Test.YtgiihdgkejhbeaaR5A
import Derived.BigQuiet
import Derived.Deep.QuietTactic
namespace Go.Proofs.Ytgiihdgkejhbeaa
open Go.ChangeShapes Go.WideShapes Go.ChangeAt Go.RowKit
set_option linter.unusedVariables false

theorem tk_fuel (f g : Nat) (n : Int) (l : List UInt8) (hf : l.length ≤ f) (hg : l.length ≤ g) : tk f n l = tk g n l := by
  induction f generalizing g n l with
  | zero =>
    have h : l = [] := List.eq_nil_of_length_eq_zero (by omega)
    subst h
    rw [tk_0, tk_0]
  | succ f ih =>
    by_cases h8 : 8 ≤ l.length
    · obtain ⟨g', rfl⟩ : ∃ g', g = g' + 1 := ⟨g - 1, by omega⟩
      rw [tk_8 f n l h8, tk_8 g' n l h8]
      exact ih g' _ _ (by rw [List.length_drop]; omega) (by rw [List.length_drop]; omega)
    · by_cases h4 : 4 ≤ l.length
      · obtain ⟨g', rfl⟩ : ∃ g', g = g' + 1 := ⟨g - 1, by omega⟩
        rw [tk_4 f n l h8 h4, tk_4 g' n l h8 h4]
        exact ih g' _ _ (by rw [List.length_drop]; omega) (by rw [List.length_drop]; omega)
      · by_cases h1 : 0 < l.length
        · obtain ⟨g', rfl⟩ : ∃ g', g = g' + 1 := ⟨g - 1, by omega⟩
          rw [tk_1 f n l h8 h4 h1, tk_1 g' n l h8 h4 h1]
          exact ih g' _ _ (by rw [List.length_drop]; omega) (by rw [List.length_drop]; omega)
        · have h : l = [] := List.eq_nil_of_length_eq_zero (by omega)
          subst h
          rw [tk_0, tk_0]
/-- one byte -/
theorem tk_byte (t : ByteArray) (j : Nat) (x : Int) (ht : t.size < 4) (hj : j < t.size) :
    tk (t.size - j) x (t.data.toList.drop j) = tk (t.size - (j + 1)) (IntKind.u64.wrap (tn (bits .xor .u64 x (IntKind.u64.wrap (IntKind.u64.wrap ((t[j]'hj).toNat : Int) * 2870177450012600261))) 11 * 11400714785074694791)) (t.data.toList.drop (j + 1)) := by
  have hl : (t.data.toList.drop j).length = t.size - j := by rw [List.length_drop]; rfl
  have hd : t.data.toList.drop j = (t[j]'hj) :: t.data.toList.drop (j + 1) := by
    rw [List.drop_eq_getElem_cons (by exact hj)]
    rfl
  have hn : nuB ((t.data.toList.drop j).take 1) = (t[j]'hj).toNat := by
    rw [hd]
    simp [nuB]
  have hb := (t[j]'hj).toNat_lt
  rw [show t.size - j = (t.size - (j + 1)) + 1 by omega, tk_1 _ _ _ (by omega) (by omega) (by omega), hn, IntWalk.u64_in ((t[j]'hj).toNat : Int) ⟨by omega, by omega⟩, List.drop_drop]
  rfl


set_option maxRecDepth 100000 in
set_option maxHeartbeats 4000000 in
theorem rend_short (a b c d T : Int) (s : ByteArray) (e : Int) (hs : s.size ≤ 9223372036854775807) (hT : ¬ 32 ≤ T) (w : World) :
    Calls Try.prog 30 #[.agg #[.int .u64 a, .int .u64 b, .int .u64 c, .int .u64 d], .int .i64 T, .string s, .int .u64 e] w fun r w' => r = .returned (.int .u64 (sumW a b c d T s e)) ∧ Below w.heap.size w w' := by
  unfold sumW
  rw [if_neg hT]
  obtain ⟨R, hR⟩ : ∃ R, tk s.size (IntKind.u64.wrap (IntKind.u64.wrap (e + 2870177450012600261) + IntKind.u64.wrap T)) s.data.toList = R := ⟨_, rfl⟩
  rw [hR]
  have HR := Lib.hid hR
  clear hR
  go_enter Try.func30, Try.ntmps30
  go_wp2_with fail
  have HB := Lib.hid (below_box (Below.refl w.heap.size w) (.cells #[.int .u64 a, .int .u64 b, .int .u64 c, .int .u64 d] 30))

  go_loopw [2, 9] (fun b h wr => ∃ (f : Nat) (n' : Int) (t : ByteArray), t.size ≤ f ∧ Hid (tk f n' t.data.toList = R) ∧ h = .int .u64 n' ∧ b = .string t ∧ t.size ≤ s.size ∧ Below w.heap.size w wr) (fun b _ _ => szOf b)
  case atStart => exact ⟨s.size, _, s, Nat.le_refl _, HR.out, rfl, rfl, Nat.le_refl _, HB.out⟩
  case round =>
    obtain ⟨f, n', t, hf, ht, rfl, rfl, hts, hbw⟩ := hrel
    have htm : t.size ≤ 9223372036854775807 := Nat.le_trans hts hs
    have hlen : t.data.toList.length = t.size := rfl
    have HB := Lib.hid hbw
    clear hbw HR
    by_cases h8 : 8 ≤ t.size
    · have h8i : (8 : Int) ≤ (t.size : Int) := by omega
      obtain ⟨g, rfl⟩ : ∃ g, f = g + 1 := ⟨f - 1, by omega⟩
      have ht2 := ht.out
      rw [tk_8 g n' _ (by rw [hlen]; exact h8), ← tail_list] at ht2
      have HT := Lib.hid ht2
      have he : (t.extract 8 t.size).size = t.size - 8 := by rw [ByteArray.size_extract, Nat.min_self]
      clear ht ht2
      go_wp2_with (first
        | (go_at_call 41; (with_reducible refine (rf0 t htm h8 _).mono ?_); rintro e w1 ⟨rfl, hb1⟩)
        | (go_at_call 40; (with_reducible refine (rround_any _ _ _).mono ?_); rintro e w2 ⟨rfl, rfl⟩)
        | (go_at_call 42; (with_reducible refine (rturn27 _ _).mono ?_); rintro e w2 ⟨rfl, rfl⟩)
        | (go_at_call 44; (with_reducible refine (times_any _ _ _).mono ?_); rintro e w2 ⟨rfl, rfl⟩))
      go_roundw
      case rel => exact ⟨g, _, t.extract 8 t.size, by omega, HT.out, rfl, rfl, by omega, below_call HB.out hb1⟩
      case measure => show (t.extract 8 t.size).size < t.size; omega
    · have h8i : ¬ (8 : Int) ≤ (t.size : Int) := by omega
      by_cases h4 : 4 ≤ t.size
      · have h4i : (4 : Int) ≤ (t.size : Int) := by omega
        obtain ⟨u, hu⟩ : ∃ u, t.extract 4 t.size = u := ⟨_, rfl⟩
        have hus : u.size = t.size - 4 := by rw [← hu, ByteArray.size_extract, Nat.min_self]
        have hu4 : u.size < 4 := by omega
        obtain ⟨g, rfl⟩ : ∃ g, f = g + 1 := ⟨f - 1, by omega⟩
        have ht2 := ht.out
        rw [tk_4 g n' _ (by rw [hlen]; exact h8) (by rw [hlen]; exact h4), ← tail_list, hu, tk_fuel g u.size _ _ (by show u.size ≤ g; omega) (Nat.le_refl _)] at ht2
        have HT := Lib.hid ht2
        clear ht ht2
        go_wp2_with (first
          | (go_at_call 41; (with_reducible refine (rf4 t htm h4 _).mono ?_); rintro e w1 ⟨rfl, hb1⟩)
          | (go_at_call 42; (with_reducible refine (rturn23 _ _).mono ?_); rintro e w2 ⟨rfl, rfl⟩)
          | (go_at_call 44; (with_reducible refine (times_any _ _ _).mono ?_); rintro e w2 ⟨rfl, rfl⟩))
        have HB2 := Lib.hid (below_call HB.out hb1)
        go_loop [9, 11] (fun h i => ∃ (j : Nat) (x : Int), j ≤ u.size ∧ h = .int .u64 x ∧ i = .int .i64 (j : Int) ∧ Hid (tk (u.size - j) x (u.data.toList.drop j) = R)) (fun _ i => u.size - (intOf i).toNat)
        case atStart => exact ⟨0, _, Nat.zero_le _, rfl, rfl, HT.out⟩
        case round =>
          obtain ⟨j, x, hj, rfl, rfl, hx⟩ := hrel
          by_cases hlt : j < u.size
          · have hx2 := hx.out
            rw [tk_byte u j x hu4 hlt] at hx2
            have HX := Lib.hid hx2
            clear hx hx2 HT
            go_wp2_with (first
              | (go_at_call 42; (with_reducible refine (rturn11 _ _).mono ?_); rintro e w2 ⟨rfl, rfl⟩)
              | (go_at_call 44; (with_reducible refine (times_any _ _ _).mono ?_); rintro e w2 ⟨rfl, rfl⟩))
            go_round
            case rel => exact ⟨j + 1, _, by omega, rfl, by go_num, HX.out⟩
            case measure => simp [intOf]; omega
          · obtain rfl : j = u.size := by omega
            have hx2 := hx.out
            have hd : List.drop u.size u.data.toList = [] := List.drop_of_length_le (Nat.le_refl u.data.toList.length)
            rw [hd, tk_0] at hx2
            subst hx2
            clear hx HT
            go_wp2_with (go_at_call 44; (with_reducible refine (times_any _ _ _).mono ?_); rintro e w2 ⟨rfl, rfl⟩)
            go_ret
            exact ⟨rfl, HB2.out⟩
      · have h4i : ¬ (4 : Int) ≤ (t.size : Int) := by omega
        obtain ⟨u, hu⟩ : ∃ u, t = u := ⟨_, rfl⟩
        subst hu
        have hu4 : t.size < 4 := by omega
        have ht2 := ht.out
        rw [tk_fuel f t.size _ _ (by show t.size ≤ f; omega) (Nat.le_refl _)] at ht2
        have HT := Lib.hid ht2
        clear ht ht2
        go_wp2_with fail
        have HB2 := HB
        go_loop [9, 11] (fun h i => ∃ (j : Nat) (x : Int), j ≤ t.size ∧ h = .int .u64 x ∧ i = .int .i64 (j : Int) ∧ Hid (tk (t.size - j) x (t.data.toList.drop j) = R)) (fun _ i => t.size - (intOf i).toNat)
        case atStart => exact ⟨0, _, Nat.zero_le _, rfl, rfl, HT.out⟩
        case round =>
          obtain ⟨j, x, hj, rfl, rfl, hx⟩ := hrel
          by_cases hlt : j < t.size
          · have hx2 := hx.out
            rw [tk_byte t j x hu4 hlt] at hx2
            have HX := Lib.hid hx2
            clear hx hx2 HT
            go_wp2_with (first
              | (go_at_call 42; (with_reducible refine (rturn11 _ _).mono ?_); rintro e w2 ⟨rfl, rfl⟩)
              | (go_at_call 44; (with_reducible refine (times_any _ _ _).mono ?_); rintro e w2 ⟨rfl, rfl⟩))
            go_round
            case rel => exact ⟨j + 1, _, by omega, rfl, by go_num, HX.out⟩
            case measure => simp [intOf]; omega
          · obtain rfl : j = t.size := by omega
            have hx2 := hx.out
            have hd : List.drop t.size t.data.toList = [] := List.drop_of_length_le (Nat.le_refl t.data.toList.length)
            rw [hd, tk_0] at hx2
            subst hx2
            clear hx HT
            go_wp2_with (go_at_call 44; (with_reducible refine (times_any _ _ _).mono ?_); rintro e w2 ⟨rfl, rfl⟩)
            go_ret
            exact ⟨rfl, HB2.out⟩

theorem c4u {w : World} {g : Nat} {t : TypeId} {v0 v1 v2 v3 : Value} (h : Blk w g t #[v0, v1, v2, v3]) :
    w.cell? ⟨g, 0, none⟩ = some v0 ∧ w.cell? ⟨g, 1, none⟩ = some v1 ∧ w.cell? ⟨g, 2, none⟩ = some v2 ∧ w.cell? ⟨g, 3, none⟩ = some v3 := ⟨blk_cell h 0, blk_cell h 1, blk_cell h 2, blk_cell h 3⟩
set_option maxRecDepth 100000 in
set_option maxHeartbeats 4000000 in
theorem rend_long (a b c d T : Int) (s : ByteArray) (e : Int) (hs : s.size ≤ 9223372036854775807) (hT : 32 ≤ T) (w : World) :
    Calls Try.prog 30 #[.agg #[.int .u64 a, .int .u64 b, .int .u64 c, .int .u64 d], .int .i64 T, .string s, .int .u64 e] w fun r w' => r = .returned (.int .u64 (sumW a b c d T s e)) ∧ Below w.heap.size w w' := by
  unfold sumW
  rw [if_pos hT]
  obtain ⟨R, hR⟩ : ∃ R, tk s.size (IntKind.u64.wrap (sg a b c d (sm a b c d 4) 4 + IntKind.u64.wrap T)) s.data.toList = R := ⟨_, rfl⟩
  rw [hR]
  have HR := Lib.hid hR
  clear hR
  go_enter Try.func30, Try.ntmps30
  go_wp2_with fail
  have K := Lib.hid (blk_drew (blk_new w 30 #[.int .u64 a, .int .u64 b, .int .u64 c, .int .u64 d]))
  go_region_held3 (fun w' => w'.cell? ⟨w.heap.size, 0, none⟩ = some (.int .u64 a) ∧ w'.cell? ⟨w.heap.size, 1, none⟩ = some (.int .u64 b) ∧ w'.cell? ⟨w.heap.size, 2, none⟩ = some (.int .u64 c) ∧ w'.cell? ⟨w.heap.size, 3, none⟩ = some (.int .u64 d))
    (first | (with_reducible exact c4u K.out))
    (first
      | (go_at_call 42; (with_reducible refine (rturn1 _ _).mono ?_); rintro r w1 ⟨rfl, rfl⟩)
      | (go_at_call 42; (with_reducible refine (rturn7 _ _).mono ?_); rintro r w1 ⟨rfl, rfl⟩)
      | (go_at_call 42; (with_reducible refine (rturn12 _ _).mono ?_); rintro r w1 ⟨rfl, rfl⟩)
      | (go_at_call 42; (with_reducible refine (rturn18 _ _).mono ?_); rintro r w1 ⟨rfl, rfl⟩))
  go_wp2_with fail
  go_loop [9, 10] (fun n i => ∃ (k : Nat) (z : Int), z = (k : Int) ∧ k ≤ 4 ∧ i = .int .i64 z ∧ n = .int .u64 (sg a b c d (sm a b c d 4) k)) (fun _ i => 4 - (intOf i).toNat)
  case atStart => exact ⟨0, 0, rfl, by omega, rfl, rfl⟩
  case round =>
    obtain ⟨k, z, hz, hk, rfl, rfl⟩ := hrel
    have hk5 : k = 0 ∨ k = 1 ∨ k = 2 ∨ k = 3 ∨ k = 4 := by omega
    clear hk
    rcases hk5 with rfl | rfl | rfl | rfl | rfl
    all_goals
      simp at hz
      subst hz
    · go_wp2_with (go_at_call 43; (with_reducible refine (rmerge_any _ _ _).mono ?_); rintro e w1 ⟨rfl, rfl⟩)
      go_round
      case rel => exact ⟨1, 1, rfl, by omega, by go_num, rfl⟩
      case measure => simp [intOf]
    · go_wp2_with (go_at_call 43; (with_reducible refine (rmerge_any _ _ _).mono ?_); rintro e w1 ⟨rfl, rfl⟩)
      go_round
      case rel => exact ⟨2, 2, rfl, by omega, by go_num, rfl⟩
      case measure => simp [intOf]
    · go_wp2_with (go_at_call 43; (with_reducible refine (rmerge_any _ _ _).mono ?_); rintro e w1 ⟨rfl, rfl⟩)
      go_round
      case rel => exact ⟨3, 3, rfl, by omega, by go_num, rfl⟩
      case measure => simp [intOf]
    · go_wp2_with (go_at_call 43; (with_reducible refine (rmerge_any _ _ _).mono ?_); rintro e w1 ⟨rfl, rfl⟩)
      go_round
      case rel => exact ⟨4, 4, rfl, by omega, by go_num, rfl⟩
      case measure => simp [intOf]
    · go_wp2_with fail
      have HB := Lib.hid (below_box (Below.refl w.heap.size w) (.cells #[.int .u64 a, .int .u64 b, .int .u64 c, .int .u64 d] 30)).drew

      go_loopw [2, 9] (fun b h wr => ∃ (f : Nat) (n' : Int) (t : ByteArray), t.size ≤ f ∧ Hid (tk f n' t.data.toList = R) ∧ h = .int .u64 n' ∧ b = .string t ∧ t.size ≤ s.size ∧ Below w.heap.size w wr) (fun b _ _ => szOf b)
      case atStart => exact ⟨s.size, _, s, Nat.le_refl _, HR.out, rfl, rfl, Nat.le_refl _, HB.out⟩
      case round =>
        obtain ⟨f, n', t, hf, ht, rfl, rfl, hts, hbw⟩ := hrel
        have htm : t.size ≤ 9223372036854775807 := Nat.le_trans hts hs
        have hlen : t.data.toList.length = t.size := rfl
        have HB := Lib.hid hbw
        clear hbw HR
        by_cases h8 : 8 ≤ t.size
        · have h8i : (8 : Int) ≤ (t.size : Int) := by omega
          obtain ⟨g, rfl⟩ : ∃ g, f = g + 1 := ⟨f - 1, by omega⟩
          have ht2 := ht.out
          rw [tk_8 g n' _ (by rw [hlen]; exact h8), ← tail_list] at ht2
          have HT := Lib.hid ht2
          have he : (t.extract 8 t.size).size = t.size - 8 := by rw [ByteArray.size_extract, Nat.min_self]
          clear ht ht2
          go_wp2_with (first
            | (go_at_call 41; (with_reducible refine (rf0 t htm h8 _).mono ?_); rintro e w1 ⟨rfl, hb1⟩)
            | (go_at_call 40; (with_reducible refine (rround_any _ _ _).mono ?_); rintro e w2 ⟨rfl, rfl⟩)
            | (go_at_call 42; (with_reducible refine (rturn27 _ _).mono ?_); rintro e w2 ⟨rfl, rfl⟩)
            | (go_at_call 44; (with_reducible refine (times_any _ _ _).mono ?_); rintro e w2 ⟨rfl, rfl⟩))
          go_roundw
          case rel => exact ⟨g, _, t.extract 8 t.size, by omega, HT.out, rfl, rfl, by omega, below_call HB.out hb1⟩
          case measure => show (t.extract 8 t.size).size < t.size; omega
        · have h8i : ¬ (8 : Int) ≤ (t.size : Int) := by omega
          by_cases h4 : 4 ≤ t.size
          · have h4i : (4 : Int) ≤ (t.size : Int) := by omega
            obtain ⟨u, hu⟩ : ∃ u, t.extract 4 t.size = u := ⟨_, rfl⟩
            have hus : u.size = t.size - 4 := by rw [← hu, ByteArray.size_extract, Nat.min_self]
            have hu4 : u.size < 4 := by omega
            obtain ⟨g, rfl⟩ : ∃ g, f = g + 1 := ⟨f - 1, by omega⟩
            have ht2 := ht.out
            rw [tk_4 g n' _ (by rw [hlen]; exact h8) (by rw [hlen]; exact h4), ← tail_list, hu, tk_fuel g u.size _ _ (by show u.size ≤ g; omega) (Nat.le_refl _)] at ht2
            have HT := Lib.hid ht2
            clear ht ht2
            go_wp2_with (first
              | (go_at_call 41; (with_reducible refine (rf4 t htm h4 _).mono ?_); rintro e w1 ⟨rfl, hb1⟩)
              | (go_at_call 42; (with_reducible refine (rturn23 _ _).mono ?_); rintro e w2 ⟨rfl, rfl⟩)
              | (go_at_call 44; (with_reducible refine (times_any _ _ _).mono ?_); rintro e w2 ⟨rfl, rfl⟩))
            have HB2 := Lib.hid (below_call HB.out hb1)
            go_loop [9, 11] (fun h i => ∃ (j : Nat) (x : Int), j ≤ u.size ∧ h = .int .u64 x ∧ i = .int .i64 (j : Int) ∧ Hid (tk (u.size - j) x (u.data.toList.drop j) = R)) (fun _ i => u.size - (intOf i).toNat)
            case atStart => exact ⟨0, _, Nat.zero_le _, rfl, rfl, HT.out⟩
            case round =>
              obtain ⟨j, x, hj, rfl, rfl, hx⟩ := hrel
              by_cases hlt : j < u.size
              · have hx2 := hx.out
                rw [tk_byte u j x hu4 hlt] at hx2
                have HX := Lib.hid hx2
                clear hx hx2 HT
                go_wp2_with (first
                  | (go_at_call 42; (with_reducible refine (rturn11 _ _).mono ?_); rintro e w2 ⟨rfl, rfl⟩)
                  | (go_at_call 44; (with_reducible refine (times_any _ _ _).mono ?_); rintro e w2 ⟨rfl, rfl⟩))
                go_round
                case rel => exact ⟨j + 1, _, by omega, rfl, by go_num, HX.out⟩
                case measure => simp [intOf]; omega
              · obtain rfl : j = u.size := by omega
                have hx2 := hx.out
                have hd : List.drop u.size u.data.toList = [] := List.drop_of_length_le (Nat.le_refl u.data.toList.length)
                rw [hd, tk_0] at hx2
                subst hx2
                clear hx HT
                go_wp2_with (go_at_call 44; (with_reducible refine (times_any _ _ _).mono ?_); rintro e w2 ⟨rfl, rfl⟩)
                go_ret
                exact ⟨rfl, HB2.out⟩
          · have h4i : ¬ (4 : Int) ≤ (t.size : Int) := by omega
            obtain ⟨u, hu⟩ : ∃ u, t = u := ⟨_, rfl⟩
            subst hu
            have hu4 : t.size < 4 := by omega
            have ht2 := ht.out
            rw [tk_fuel f t.size _ _ (by show t.size ≤ f; omega) (Nat.le_refl _)] at ht2
            have HT := Lib.hid ht2
            clear ht ht2
            go_wp2_with fail
            have HB2 := HB
            go_loop [9, 11] (fun h i => ∃ (j : Nat) (x : Int), j ≤ t.size ∧ h = .int .u64 x ∧ i = .int .i64 (j : Int) ∧ Hid (tk (t.size - j) x (t.data.toList.drop j) = R)) (fun _ i => t.size - (intOf i).toNat)
            case atStart => exact ⟨0, _, Nat.zero_le _, rfl, rfl, HT.out⟩
            case round =>
              obtain ⟨j, x, hj, rfl, rfl, hx⟩ := hrel
              by_cases hlt : j < t.size
              · have hx2 := hx.out
                rw [tk_byte t j x hu4 hlt] at hx2
                have HX := Lib.hid hx2
                clear hx hx2 HT
                go_wp2_with (first
                  | (go_at_call 42; (with_reducible refine (rturn11 _ _).mono ?_); rintro e w2 ⟨rfl, rfl⟩)
                  | (go_at_call 44; (with_reducible refine (times_any _ _ _).mono ?_); rintro e w2 ⟨rfl, rfl⟩))
                go_round
                case rel => exact ⟨j + 1, _, by omega, rfl, by go_num, HX.out⟩
                case measure => simp [intOf]; omega
              · obtain rfl : j = t.size := by omega
                have hx2 := hx.out
                have hd : List.drop t.size t.data.toList = [] := List.drop_of_length_le (Nat.le_refl t.data.toList.length)
                rw [hd, tk_0] at hx2
                subst hx2
                clear hx HT
                go_wp2_with (go_at_call 44; (with_reducible refine (times_any _ _ _).mono ?_); rintro e w2 ⟨rfl, rfl⟩)
                go_ret
                exact ⟨rfl, HB2.out⟩

theorem rend_any (a b c d T : Int) (s : ByteArray) (e : Int) (hs : s.size ≤ 9223372036854775807) (w : World) :
    Calls Try.prog 30 #[.agg #[.int .u64 a, .int .u64 b, .int .u64 c, .int .u64 d], .int .i64 T, .string s, .int .u64 e] w fun r w' => r = .returned (.int .u64 (sumW a b c d T s e)) ∧ Below w.heap.size w w' := by
  by_cases h : 32 ≤ T
  · exact rend_long a b c d T s e hs h w
  · exact rend_short a b c d T s e hs h w
end Go.Proofs.Ytgiihdgkejhbeaa
