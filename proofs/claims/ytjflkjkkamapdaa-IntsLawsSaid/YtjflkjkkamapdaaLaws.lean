/-
  IntsLaws: what its call does, given the results of the calls that it makes: it returns true.
-/
import Derived.Test.YtjflkjkkamapdaaAppend

namespace Go.Proofs.Ytjflkjkkamapdaa
open Go.ChangeShapes Go.WideShapes Go.ChangeAt Go.RowKit
set_option linter.unusedVariables false

theorem sum_own {u : World} {base n : Nat} {v : Value} {xs : List Int} {s : Int} (h : u.ownsRow base 3 1 v n (xs.map (Value.int .i64))) (hn : n ≤ 1000000) (hs : sumUp 0 xs = some s) :
    Calls Try.prog 28 #[v] u fun e w' => e = .returned (.tuple #[.int .i64 s, .int .i64 0]) ∧ u = w' := by
  have hl : xs.length = n := by simpa using h.1
  obtain ⟨A, c, rfl, hat⟩ := ints_of_own h
  have hr := sum_any A xs.length c _ xs u rfl (by omega) hat
  rw [hs] at hr
  exact hr

set_option maxRecDepth 100000 in
set_option maxHeartbeats 2000000 in
theorem laws_walk (x y z X Y Z s1 b c d sp sq t : Int) (A A' : Option Addr) (len cap len' cap' : Nat) (xs xs' : List Int) (w : World)
    (hM1 : ∀ u, Calls Try.prog 33 #[.int .i64 x, .int .i64 1048576] u fun e w' => e = .returned (.int .i64 X) ∧ u = w')
    (hM2 : ∀ u, Calls Try.prog 33 #[.int .i64 y, .int .i64 524288] u fun e w' => e = .returned (.int .i64 Y) ∧ u = w')
    (hM3 : ∀ u, Calls Try.prog 33 #[.int .i64 z, .int .i64 524288] u fun e w' => e = .returned (.int .i64 Z) ∧ u = w')
    (hP1 : ∀ u, Calls Try.prog 24 #[.int .i64 Y, .int .i64 Z] u fun e w' => e = .returned (.tuple #[.int .i64 s1, .int .i64 0]) ∧ Below u.heap.size u w')
    (hT1 : ∀ u, Calls Try.prog 26 #[.int .i64 X, .int .i64 s1] u fun e w' => e = .returned (.tuple #[.int .i64 b, .int .i64 0]) ∧ u = w')
    (hT2 : ∀ u, Calls Try.prog 26 #[.int .i64 X, .int .i64 Y] u fun e w' => e = .returned (.tuple #[.int .i64 c, .int .i64 0]) ∧ u = w')
    (hT3 : ∀ u, Calls Try.prog 26 #[.int .i64 Z, .int .i64 X] u fun e w' => e = .returned (.tuple #[.int .i64 d, .int .i64 0]) ∧ u = w')
    (hP2 : ∀ u, Calls Try.prog 24 #[.int .i64 d, .int .i64 c] u fun e w' => e = .returned (.tuple #[.int .i64 b, .int .i64 0]) ∧ Below u.heap.size u w')
    (hP3 : ∀ u, Calls Try.prog 24 #[.int .i64 sq, .int .i64 sp] u fun e w' => e = .returned (.tuple #[.int .i64 t, .int .i64 0]) ∧ Below u.heap.size u w')
    (hMx : ∀ k, k < xs.length → ∀ u, Calls Try.prog 33 #[.int .i64 (xs.getD k 0), .int .i64 1048576] u fun e w' => e = .returned (.int .i64 (xs.getD k 0 % 1048576)) ∧ u = w')
    (hMy : ∀ k, k < xs'.length → ∀ u, Calls Try.prog 33 #[.int .i64 (xs'.getD k 0), .int .i64 1048576] u fun e w' => e = .returned (.int .i64 (xs'.getD k 0 % 1048576)) ∧ u = w')
    (hl : xs.length = len) (hl' : xs'.length = len') (hn : len ≤ 9223372036854775807) (hn' : len' ≤ 9223372036854775807)
    (hat : IntsAt w w.heap.size A xs) (hat' : IntsAt w w.heap.size A' xs')
    (hS1 : sumUp 0 (mods xs 10) = some sp) (hS2 : sumUp 0 (mods xs' 10) = some sq) (hS3 : sumUp 0 (mods xs 10 ++ mods xs' 10) = some t) :
    Calls Try.prog 9 #[.int .i64 x, .int .i64 y, .int .i64 z, .slice A len cap, .slice A' len' cap'] w fun e w' => e = .returned (.bool true) ∧ Below w.heap.size w w' := by
  have HMx := Lib.hid hMx
  have HMy := Lib.hid hMy
  have HL := Lib.hid hl
  have HL' := Lib.hid hl'
  have HAT := Lib.hid hat
  have HAT' := Lib.hid hat'
  have HS1 := Lib.hid hS1
  have HS2 := Lib.hid hS2
  have HS3 := Lib.hid hS3
  clear hMx hMy hl hl' hat hat' hS1 hS2 hS3
  go_enter Try.func9, Try.ntmps9
  go_wp2_with (first
    | (go_at_call 6; (with_reducible refine (known_any _).mono ?_); rintro e w1 ⟨rfl, hb1⟩)
    | (go_at_call 33; (with_reducible refine (hM1 _).mono ?_); rintro e w' ⟨rfl, rfl⟩)
    | (go_at_call 33; (with_reducible refine (hM2 _).mono ?_); rintro e w' ⟨rfl, rfl⟩)
    | (go_at_call 33; (with_reducible refine (hM3 _).mono ?_); rintro e w' ⟨rfl, rfl⟩)
    | (go_at_call 24; (with_reducible refine (hP1 _).mono ?_); rintro e w2 ⟨rfl, hb2⟩)
    | (go_at_call 26; (with_reducible refine (hT1 _).mono ?_); rintro e w' ⟨rfl, rfl⟩)
    | (go_at_call 26; (with_reducible refine (hT2 _).mono ?_); rintro e w' ⟨rfl, rfl⟩)
    | (go_at_call 26; (with_reducible refine (hT3 _).mono ?_); rintro e w' ⟨rfl, rfl⟩)
    | (go_at_call 24; (with_reducible refine (hP2 _).mono ?_); rintro e w3 ⟨rfl, hb3⟩))
  have hbl : Below w.heap.size w w3 := (hb1.trans (hb2.mono hb1.size)).trans (hb3.mono (by have := hb1.size; have := hb2.size; omega))
  clear hb1 hb2 hb3
  have hnil := World.ownsRow_nil w3 w3.heap.size 3 1
  go_loopw [22, 24] (fun v i wr => ∃ k : Nat, k ≤ len ∧ k ≤ 10 ∧ i = .int .i64 (k : Int) ∧ wr.ownsRow w3.heap.size 3 1 v k ((mods xs k).map (Value.int .i64)) ∧ Below w3.heap.size w3 wr) (fun _ i _ => 10 - (intOf i).toNat)
  case atStart => exact ⟨0, by omega, by omega, rfl, hnil, Below.refl _ _⟩
  case round =>
    obtain ⟨k, hk, hk10, rfl, hown, hbw⟩ := hrel
    by_cases hgo : k < len ∧ k < 10
    · obtain ⟨h1, h2⟩ := hgo
      have hkx : k < xs.length := by have := HL.out; omega
      obtain ⟨bb, off, hA, _, hc⟩ := ((HAT.out.below hbl).below (hbw.mono hbl.size)) (by omega)
      subst hA
      have hcell := hc k hkx
      have hM := HMx.out k hkx
      have hms := Lib.hid (mods_succ xs k hkx)
      clear hc
      generalize xs.getD k 0 = e0 at hcell hM hms
      go_wp2_with (first
        | (go_at_call 33; (with_reducible refine (hM _).mono ?_); rintro e w' ⟨rfl, rfl⟩)
        | (at_builtin; refine append_one rfl (.tmp 104) (.tmp 110) rfl w3.heap.size u22 k (mods xs k) (e0 % 1048576) rfl hown rfl ?c1 ?c2 ?_))
      case c1 => omega
      case c2 => exact hbw.size
      intro v' w' hown2 hg
      have hlt := hown.lt
      have hb' := (hbw.alloc hbw.size (.cells #[.int .i64 (e0 % 1048576)] 3)).grown hg (by have := hbw.size; simp; omega) (fun q hq => (hlt q hq).1)
      have hown3 := Lib.hid hown2
      clear hown2 hown hg hlt
      go_wp2
      go_roundw
      case rel => exact ⟨k + 1, by omega, by omega, by go_num, by rw [hms.out, List.map_append]; exact hown3.out, hb'⟩
      case measure => simp [intOf]; omega
    · have hPm := mods_end xs k (by have := HL.out; omega) hk10 (by have := HL.out; omega)
      rw [hPm] at hown
      clear hPm
      have hPl := mods_length xs 10
      generalize mods xs 10 = P at hown HS1 HS3 hPl
      have hb0 : Below w.heap.size w _ := hbl.trans (hbw.mono hbl.size)
      obtain ⟨wo, rfl⟩ : ∃ wo : World, wo = wr := ⟨_, rfl⟩
      have hlt1 := fun q hq => (hown.lt q hq).2
      have hown1 := Lib.hid hown
      have hlt1' := Lib.hid hlt1
      clear hown hlt1
      by_cases h1 : k < len
      all_goals
        have hnil2 := World.ownsRow_nil wo wo.heap.size 3 1
        go_wp2
        go_loopw [23, 25] (fun v i wr => ∃ k : Nat, k ≤ len' ∧ k ≤ 10 ∧ i = .int .i64 (k : Int) ∧ wr.ownsRow wo.heap.size 3 1 v k ((mods xs' k).map (Value.int .i64)) ∧ Below wo.heap.size wo wr) (fun _ i _ => 10 - (intOf i).toNat)
        case atStart => exact ⟨0, by omega, by omega, rfl, hnil2, Below.refl _ _⟩
        case round =>
          obtain ⟨j, hj, hj10, rfl, hown, hbj⟩ := hrel
          by_cases hgo : j < len' ∧ j < 10
          · obtain ⟨g1, g2⟩ := hgo
            have hjx : j < xs'.length := by have := HL'.out; omega
            obtain ⟨bb, off, hA, _, hc⟩ := ((HAT'.out.below hb0).below (hbj.mono hb0.size)) (by omega)
            subst hA
            have hcell := hc j hjx
            have hM := HMy.out j hjx
            have hms := Lib.hid (mods_succ xs' j hjx)
            clear hc
            generalize xs'.getD j 0 = e0 at hcell hM hms
            go_wp2_with (first
              | (go_at_call 33; (with_reducible refine (hM _).mono ?_); rintro e w' ⟨rfl, rfl⟩)
              | (at_builtin; refine append_one rfl (.tmp 122) (.tmp 128) rfl wo.heap.size u23 j (mods xs' j) (e0 % 1048576) rfl hown rfl ?c1 ?c2 ?_))
            case c1 => omega
            case c2 => exact hbj.size
            intro v' w' hown2 hg
            have hlt := hown.lt
            have hb' := (hbj.alloc hbj.size (.cells #[.int .i64 (e0 % 1048576)] 3)).grown hg (by have := hbj.size; simp; omega) (fun q hq => (hlt q hq).1)
            have hown3 := Lib.hid hown2
            clear hown2 hown hg hlt
            go_wp2
            go_roundw
            case rel => exact ⟨j + 1, by omega, by omega, by go_num, by rw [hms.out, List.map_append]; exact hown3.out, hb'⟩
            case measure => simp [intOf]; omega
          · have hRm := mods_end xs' j (by have := HL'.out; omega) hj10 (by have := HL'.out; omega)
            rw [hRm] at hown
            clear hRm
            have hRl := mods_length xs' 10
            generalize mods xs' 10 = R at hown HS2 HS3 hRl
            obtain ⟨wt, rfl⟩ : ∃ wt : World, wt = wr := ⟨_, rfl⟩
            have hp := own_below hown1.out hlt1'.out hbj
            have hq := Lib.hid hown
            have hp' := Lib.hid hp
            have hltp := Lib.hid (fun q hq => (hp.lt q hq).2)
            have hltq := Lib.hid (fun q hq => (hown.lt q hq).2)
            clear hown hp
            have hSp := fun (_ : Unit) => sum_own hp'.out (by omega) HS1.out
            have hSq := fun (_ : Unit) => sum_own hq.out (by omega) HS2.out
            have hmade : (wt.alloc (.cells #[] 3)).ownsRow wt.heap.size 3 1 (.slice (some ⟨wt.heap.size, 0, none⟩) 0 0) 0 (([] : List Int).map (Value.int .i64)) := World.ownsRow_made wt #[] 0 (Nat.le_refl _) (by decide) rfl
            have hmade' := Lib.hid hmade
            have hpa := Lib.hid (hp'.out.alloc (.cells #[] 3))
            clear hmade
            by_cases g1 : j < len'
            all_goals
              go_wp2_with (first
                | (go_at_call 28; (with_reducible refine (hSp ()).mono ?_); rintro e w' ⟨rfl, rfl⟩)
                | (go_at_call 28; (with_reducible refine (hSq ()).mono ?_); rintro e w' ⟨rfl, rfl⟩)
                | (at_builtin; refine append_from rfl (.tmp 141) (.tmp 142) rfl wt.heap.size w3.heap.size _ u22 0 k [] P rfl hmade'.out rfl hpa.out ?d1 ?d2 ?_))
              case d1 => omega
              case d2 => simp
              intro v1 wa ho1 hg1
              have hbA := ((Below.refl wt.heap.size wt).alloc (Nat.le_refl _) (.cells #[] 3)).grown hg1 (by simp) (fun q hq => by simp [Value.ownBlock] at hq; omega)
              have hqa := Lib.hid (own_below hq.out hltq.out hbA)
              have hlt1 := Lib.hid (fun q hq => (ho1.lt q hq).1)
              have ho1' := Lib.hid (show wa.ownsRow wt.heap.size 3 1 v1 k (P.map (Value.int .i64)) from by simpa using ho1)
              clear ho1 hg1
              go_wp2_with (first
                | (at_builtin; refine append_from rfl (.tmp 143) (.tmp 144) rfl wt.heap.size wo.heap.size v1 u23 k j P R rfl ho1'.out rfl hqa.out ?d1 ?d2 ?_))
              case d1 => omega
              case d2 => exact hbA.size
              intro v2 wb ho2 hg2
              have hbB := hbA.grown hg2 hbA.size (fun q hq => hlt1.out q hq)
              have hSt := Lib.hid (sum_own (show wb.ownsRow wt.heap.size 3 1 v2 (k + j) ((P ++ R).map (Value.int .i64)) from by simpa using ho2) (by omega) HS3.out)
              clear ho2 hg2
              go_wp2_with (first
                | (go_at_call 28; (with_reducible refine hSt.out.mono ?_); rintro e w' ⟨rfl, rfl⟩)
                | (go_at_call 24; (with_reducible refine (hP3 _).mono ?_); rintro e wc ⟨rfl, hbc⟩))
              go_ret
              refine ⟨rfl, ?_⟩
              have z0 := hb0.size
              have z1 := hbj.size
              have z2 := hbB.size
              exact ((hb0.trans (hbj.mono z0)).trans (hbB.mono (by omega))).trans (hbc.mono (by omega))
end Go.Proofs.Ytjflkjkkamapdaa
