/-
  Words for CountsAdds: the counts of two strings added, their total, the only symbol.
-/
import Derived.Test.YtpmabmjfininoaaKnown
import Derived.Test.YtpmabmjfininoaaOf
namespace Go.Proofs.Ytpmabmjfininoaa
open Go.ChangeShapes Go.WideShapes Go.ChangeAt Go.RowKit Go.Shelf
set_option linter.unusedVariables false
set_option linter.unusedSimpArgs false

theorem bts_append (s t : ByteArray) : bts (s ++ t) = bts s ++ bts t := by
  unfold bts
  rw [ByteArray.toList_eq, ByteArray.toList_eq, ByteArray.toList_eq, ByteArray.data_append, Array.toList_append, List.map_append]
theorem bts_in (s : ByteArray) : ∀ x ∈ bts s, ∃ n : Nat, n < 256 ∧ x = n := fun x hx => by
  unfold bts at hx
  obtain ⟨b, _, rfl⟩ := List.mem_map.1 hx
  exact ⟨b.toNat, UInt8.toNat_lt b, rfl⟩
theorem ctab_comm (N : Nat) (a b : List Int) : ctab N (a ++ b) = ctab N (b ++ a) := by
  unfold ctab
  apply List.map_congr_left
  intro j _
  rw [occurs_append, occurs_append, Int.add_comm]
theorem ctab_add {N j : Nat} (h : j < N) (a b : List Int) : (ctab N a).getD j 0 + (ctab N b).getD j 0 = (ctab N (a ++ b)).getD j 0 := by
  rw [ctab_getD _ h, ctab_getD _ h, ctab_getD _ h, occurs_append]

/-- sums over symbols -/
def sumF (N : Nat) (f : Nat → Int) : Int := ((List.range N).map f).sum
theorem sumF_succ (N : Nat) (f : Nat → Int) : sumF (N + 1) f = sumF N f + f N := by
  unfold sumF
  rw [List.range_succ, List.map_append, List.sum_append]
  simp
theorem sumF_zero (f : Nat → Int) : sumF 0 f = 0 := rfl
theorem sumF_add (f g : Nat → Int) : ∀ N, sumF N (fun j => f j + g j) = sumF N f + sumF N g
  | 0 => rfl
  | N + 1 => by rw [sumF_succ, sumF_succ, sumF_succ, sumF_add f g N]; omega
theorem sumF_one (x : Nat) : ∀ N, sumF N (fun j => if (x : Int) = (j : Int) then 1 else 0) = if x < N then 1 else 0
  | 0 => rfl
  | N + 1 => by
    rw [sumF_succ, sumF_one x N]
    by_cases h1 : x < N
    · rw [if_pos h1, if_neg (by omega), if_pos (by omega)]; rfl
    · by_cases h2 : x = N
      · subst h2; rw [if_neg h1, if_pos rfl, if_pos (by omega)]; rfl
      · rw [if_neg h1, if_neg (by omega), if_neg (by omega)]; rfl
theorem sumF_none : ∀ N, sumF N (fun _ => (0 : Int)) = 0
  | 0 => rfl
  | N + 1 => by rw [sumF_succ, sumF_none N]; rfl
theorem sumF_congr {f g : Nat → Int} (N : Nat) (h : ∀ j, f j = g j) : sumF N f = sumF N g := by
  have : f = g := funext h
  rw [this]
theorem ctab_sum (N : Nat) : ∀ zs : List Int, (∀ x ∈ zs, ∃ n : Nat, n < N ∧ x = n) → (ctab N zs).sum = zs.length
  | [], h => by
    show sumF N (fun j => occurs (j : Int) []) = _
    rw [sumF_congr N (g := fun _ => 0) (fun j => by simp [occurs]), sumF_none]; rfl
  | z :: zs, h => by
    have ih := ctab_sum N zs (fun x hx => h x (List.mem_cons_of_mem _ hx))
    obtain ⟨n, hn, rfl⟩ := h z (List.mem_cons_self ..)
    show sumF N (fun j => occurs (j : Int) ((n : Int) :: zs)) = _
    have e : ∀ j : Nat, occurs (j : Int) ((n : Int) :: zs) = (if (n : Int) = (j : Int) then 1 else 0) + occurs (j : Int) zs := fun j => by
      have := occurs_append (j : Int) [(n : Int)] zs
      rw [occurs_one] at this
      exact this
    rw [sumF_congr N e, sumF_add, sumF_one, if_pos hn]
    have ih' : sumF N (fun j => occurs (j : Int) zs) = (zs.length : Int) := ih
    rw [ih', List.length_cons]; push_cast; omega
theorem sumUp_sum : ∀ (xs : List Int) (s : Int), (∀ x ∈ xs, 0 ≤ x) → 0 ≤ s → s + xs.sum ≤ 1099511627776 → sumUp s xs = some (s + xs.sum) ∧ 0 ≤ xs.sum
  | [], s, _, h0, _ => ⟨by simp [sumUp], by simp⟩
  | x :: xs, s, h, h0, hl => by
    have hx := h x (List.mem_cons_self ..)
    have hp : ∀ ys : List Int, (∀ y ∈ ys, 0 ≤ y) → 0 ≤ ys.sum := by
      intro ys
      induction ys with
      | nil => intro _; simp
      | cons y ys ih =>
        intro hy
        have := hy y (List.mem_cons_self ..)
        have := ih (fun z hz => hy z (List.mem_cons_of_mem _ hz))
        rw [List.sum_cons]; omega
    have h1 := hp xs (fun z hz => h z (List.mem_cons_of_mem _ hz))
    rw [List.sum_cons] at hl ⊢
    have e : sumUp s (x :: xs) = if x < 0 ∨ 1099511627776 - s < x then none else sumUp (s + x) xs := rfl
    rw [e, if_neg (by omega)]
    obtain ⟨h2, _⟩ := sumUp_sum xs (s + x) (fun z hz => h z (List.mem_cons_of_mem _ hz)) (by omega) (by omega)
    exact ⟨by rw [h2]; congr 1; omega, by omega⟩
theorem ctab_nonneg (N : Nat) (zs : List Int) : ∀ x ∈ ctab N zs, 0 ≤ x := fun x hx => by
  unfold ctab at hx
  obtain ⟨j, _, rfl⟩ := List.mem_map.1 hx
  exact (occurs_le _ _).1
/-- the counts of a string are right, and their total is its length -/
theorem ctab_right (s : ByteArray) (hs : s.size ≤ 1048576) : chk (ctab 256 (bts s)) = 0 ∧ totN (ctab 256 (bts s)) = s.size := by
  have h1 := ctab_sum 256 (bts s) (bts_in s)
  rw [bts_length] at h1
  have h2 := (sumUp_sum (ctab 256 (bts s)) 0 (ctab_nonneg _ _) (Int.le_refl _) (by rw [h1]; omega)).1
  rw [h1] at h2
  have hl : ¬ 256 < (ctab 256 (bts s)).length := by rw [ctab_length]; omega
  refine ⟨?_, ?_⟩
  · unfold chk
    rw [if_neg hl, h2]; rfl
  · unfold totN
    rw [if_neg hl, h2]; simp

/-- how many symbols occur -/
theorem cnt_ctab (zs : List Int) (N : Nat) : cnt (ctab (N + 1) zs) = cnt (ctab N zs) + if 0 < occurs (N : Int) zs then 1 else 0 := by
  unfold ctab
  rw [List.range_succ, List.map_append, cnt_append]
  simp only [List.map_cons, List.map_nil]
  rw [cnt_one]
theorem occurs_pos {j : Int} {zs : List Int} : 0 < occurs j zs ↔ j ∈ zs := by
  unfold occurs
  rw [show (0 : Int) = ((0 : Nat) : Int) from rfl, Int.ofNat_lt]
  exact List.count_pos_iff
theorem cnt_same (c : Nat) (zs : List Int) (hc : (c : Int) ∈ zs) (h : ∀ x ∈ zs, x = c) : ∀ N, cnt (ctab N zs) = if c < N then 1 else 0
  | 0 => rfl
  | N + 1 => by
    rw [cnt_ctab, cnt_same c zs hc h N]
    by_cases h1 : c = N
    · subst h1
      rw [if_neg (by omega), if_pos (occurs_pos.2 hc), if_pos (by omega)]
    · have h2 : ¬ 0 < occurs (N : Int) zs := fun hp => by
        have := h _ (occurs_pos.1 hp)
        omega
      rw [if_neg h2]
      by_cases h3 : c < N
      · rw [if_pos h3, if_pos (by omega)]
      · rw [if_neg h3, if_neg (by omega)]
theorem cnt_two (c d : Nat) (hcd : c ≠ d) (zs : List Int) (hc : (c : Int) ∈ zs) (hd : (d : Int) ∈ zs) : ∀ N, (if c < N then 1 else 0) + (if d < N then 1 else 0) ≤ cnt (ctab N zs)
  | 0 => by rw [if_neg (by omega), if_neg (by omega)]; exact Nat.zero_le _
  | N + 1 => by
    have ih := cnt_two c d hcd zs hc hd N
    rw [cnt_ctab]
    by_cases h1 : c = N
    · subst h1
      rw [if_neg (by omega)] at ih
      rw [if_pos (by omega), if_pos (occurs_pos.2 hc)]
      by_cases h2 : d < c
      · rw [if_pos h2] at ih; rw [if_pos (by omega)]; omega
      · rw [if_neg (by omega)]; omega
    · by_cases h2 : d = N
      · subst h2
        rw [if_neg (show ¬ d < d by omega)] at ih
        rw [if_pos (show d < d + 1 by omega), if_pos (occurs_pos.2 hd)]
        by_cases h3 : c < d
        · rw [if_pos h3] at ih; rw [if_pos (by omega)]; omega
        · rw [if_neg (by omega)]; omega
      · have e1 : (if c < N + 1 then 1 else 0) = if c < N then 1 else 0 := by
          by_cases h3 : c < N
          · rw [if_pos h3, if_pos (by omega)]
          · rw [if_neg h3, if_neg (by omega)]
        have e2 : (if d < N + 1 then 1 else 0) = if d < N then 1 else 0 := by
          by_cases h3 : d < N
          · rw [if_pos h3, if_pos (by omega)]
          · rw [if_neg h3, if_neg (by omega)]
        rw [e1, e2]; omega
theorem bts_mem {s : ByteArray} {k : Nat} (h : k < s.size) : ((s[k].toNat : Nat) : Int) ∈ bts s := by
  have hb : k < (bts s).length := by rw [bts_length]; exact h
  have e : (bts s).getD k 0 = (bts s)[k] := by simp [List.getD, hb]
  rw [← bts_getD h, e]
  exact List.getElem_mem hb
theorem bts_at {s : ByteArray} {x : Int} (h : x ∈ bts s) : ∃ k, ∃ hk : k < s.size, x = (s[k].toNat : Nat) := by
  obtain ⟨k, hk, rfl⟩ := List.mem_iff_getElem.1 h
  have hk' : k < s.size := by rw [bts_length] at hk; exact hk
  have e : (bts s).getD k 0 = (bts s)[k] := by simp [List.getD, hk]
  exact ⟨k, hk', by rw [← bts_getD hk', e]⟩
/-- just one symbol occurs exactly if the string is the same all over -/
theorem only_same (s : ByteArray) (hs : s.size ≤ 1048576) : (disN (ctab 256 (bts s)) == 1) = samB s := by
  unfold disN
  rw [if_pos (ctab_right s hs).1]
  rcases Nat.eq_zero_or_pos s.size with h0 | h0
  · rw [samB_empty h0]
    have hb : bts s = [] := List.eq_nil_of_length_eq_zero (by rw [bts_length]; exact h0)
    rw [hb, ctab_nil]
    have e : cnt (List.replicate 256 0) = 0 := by
      unfold cnt
      rw [List.filter_replicate]
      rfl
    rw [e]; rfl
  · cases hsm : samB s with
    | true =>
      have ha := (samB_all h0).1 hsm
      have hc := cnt_same s[0].toNat (bts s) (bts_mem h0) (fun x hx => by
        obtain ⟨k, hk, rfl⟩ := bts_at hx
        rw [ha k hk]) 256
      rw [if_pos (UInt8.toNat_lt _)] at hc
      rw [hc]; rfl
    | false =>
      have hn : ¬ ∀ k (hk : k < s.size), s[k] = s[0] := fun h => by
        rw [(samB_all h0).2 h] at hsm; cases hsm
      have hne : ∃ k, ∃ hk : k < s.size, s[k] ≠ s[0] := by
        refine Classical.byContradiction fun hx => hn fun k hk => ?_
        exact Classical.byContradiction fun hy => hx ⟨k, hk, hy⟩
      obtain ⟨k, hk, hne⟩ := hne
      have hc := cnt_two s[k].toNat s[0].toNat (fun h => hne (UInt8.toNat_inj.1 h)) (bts s) (bts_mem hk) (bts_mem h0) 256
      rw [if_pos (UInt8.toNat_lt _), if_pos (UInt8.toNat_lt _)] at hc
      rw [beq_eq_false_iff_ne]
      omega

theorem bytes_x (s : ByteArray) (hs : s.size ≤ 1048576) (X : List Int) (hX : ctab 256 (bts s) = X) (w : World) :
    Calls Try.prog 27 #[.string s] w fun e w' => ∃ A c, e = .returned (.tuple #[.slice A 256 c, .int .i64 0]) ∧ IntsAt w' w'.heap.size A X ∧ Below w.heap.size w w' := by
  refine Calls.mono (bytes_c s hs w) ?_
  rintro e w' ⟨A, c, rfl, h1, h2⟩
  rw [ctab_length]
  exact ⟨A, c, rfl, by rw [← hX]; exact h1, h2⟩
theorem same_n (A A' : Option Addr) (c c' n : Nat) (xs : List Int) (hl : xs.length = n) (w : World) (hn : n ≤ 9223372036854775807) (h : IntsAt w w.heap.size A xs) (h' : IntsAt w w.heap.size A' xs) :
    Calls Try.prog 26 #[.slice A n c, .slice A' n c'] w fun e w' => e = .returned (.bool true) ∧ Below w.heap.size w w' := by
  subst hl
  exact same_any A A' c c' _ _ xs w hn h h'
theorem ctab_bound (N : Nat) (zs : List Int) (k : Nat) : 0 ≤ (ctab N zs).getD k 0 ∧ (ctab N zs).getD k 0 ≤ zs.length := by
  by_cases h : k < N
  · rw [ctab_getD _ h]; exact occurs_le _ _
  · have e : (ctab N zs).getD k 0 = 0 := by simp [List.getD, List.getElem?_eq_none (show (ctab N zs).length ≤ k by rw [ctab_length]; omega)]
    rw [e]; omega

set_option maxRecDepth 100000 in
set_option maxHeartbeats 4000000 in
theorem countsAdds_any (s t : ByteArray) (hs0 : s.size ≤ maxLen) (ht0 : t.size ≤ maxLen) (w : World) :
    Calls Try.prog 6 #[.string s, .string t] w fun e w' => e = .returned (.bool true) ∧ Below w.heap.size w w' := by
  by_cases h1 : 200 < s.size
  · have d1 : decide ((200 : Int) < (s.size : Int)) = true := decide_eq_true (by omega)
    go_enter Try.func6, Try.ntmps6
    go_wp2_with (go_at_call 5; (with_reducible refine (known_any _).mono ?_); rintro e w1 ⟨rfl, hb⟩)
    go_ret
    exact ⟨rfl, hb⟩
  · have d1 : decide ((200 : Int) < (s.size : Int)) = false := decide_eq_false (by omega)
    by_cases h2 : 200 < t.size
    · have d2 : decide ((200 : Int) < (t.size : Int)) = true := decide_eq_true (by omega)
      go_enter Try.func6, Try.ntmps6
      go_wp2_with (go_at_call 5; (with_reducible refine (known_any _).mono ?_); rintro e w1 ⟨rfl, hb⟩)
      go_ret
      exact ⟨rfl, hb⟩
    · have d2 : decide ((200 : Int) < (t.size : Int)) = false := decide_eq_false (by omega)
      have hst : (s ++ t).size = s.size + t.size := ByteArray.size_append ..
      have hts : (t ++ s).size = t.size + s.size := ByteArray.size_append ..
      obtain ⟨r1, r2⟩ := ctab_right (s ++ t) (by omega)
      have r3 := only_same (s ++ t) (by omega)
      have hYX : ctab 256 (bts (t ++ s)) = ctab 256 (bts (s ++ t)) := by rw [bts_append, bts_append, ctab_comm]
      have hadd : ∀ k, k < 256 → (ctab 256 (bts s)).getD k 0 + (ctab 256 (bts t)).getD k 0 = (ctab 256 (bts (s ++ t))).getD k 0 := fun k hk => by rw [bts_append]; exact ctab_add hk _ _
      have hbA : ∀ k, 0 ≤ (ctab 256 (bts s)).getD k 0 ∧ (ctab 256 (bts s)).getD k 0 ≤ 200 := fun k => by
        have := ctab_bound 256 (bts s) k; rw [bts_length] at this; omega
      have hbB : ∀ k, 0 ≤ (ctab 256 (bts t)).getD k 0 ∧ (ctab 256 (bts t)).getD k 0 ≤ 200 := fun k => by
        have := ctab_bound 256 (bts t) k; rw [bts_length] at this; omega
      have bA := bytes_x s (by omega) _ rfl
      have bB := bytes_x t (by omega) _ rfl
      have bX := bytes_x (s ++ t) (by omega) _ rfl
      have bY := bytes_x (t ++ s) (by omega) _ hYX
      have hlA : (ctab 256 (bts s)).length = 256 := ctab_length _ _
      have hlB : (ctab 256 (bts t)).length = 256 := ctab_length _ _
      have hlX : (ctab 256 (bts (s ++ t))).length = 256 := ctab_length _ _
      have sS := fun u => same_c (s ++ t) (by omega) u
      clear hYX
      generalize ctab 256 (bts s) = A at *
      generalize ctab 256 (bts t) = B at *
      generalize ctab 256 (bts (s ++ t)) = X at *
      have a12 := fun (Ah : Option Addr) (ch : Nat) u (hu : IntsAt u u.heap.size Ah X) => total_c (A := Ah) (n := 256) ch (w := u) ⟨hlX, by omega, hu⟩
      have a14 := fun (Ah : Option Addr) (ch : Nat) u (hu : IntsAt u u.heap.size Ah X) => distinct_c (A := Ah) (n := 256) ch (w := u) ⟨hlX, by omega, hu⟩
      have a20 := fun (Ah : Option Addr) (ch : Nat) u (hu : IntsAt u u.heap.size Ah X) => only_c (A := Ah) (n := 256) ch (w := u) ⟨hlX, by omega, hu⟩
      rw [r1, r2, hst] at a12
      rw [r1] at a14 a20
      rw [r3] at a20
      have r3' := Lib.hid r3
      have HLX := Lib.hid hlX
      have HLA := Lib.hid hlA
      have HLB := Lib.hid hlB
      have HAD := Lib.hid hadd
      have HBA := Lib.hid hbA
      have HBB := Lib.hid hbB
      clear r1 r2 hadd hbA hbB hlA hlB hlX
      generalize (if disN X = 1 then lasN X else 0) = q1 at *
      generalize hd : disN X = dX at *
      clear hd
      generalize samB (s ++ t) = sb at *
      push_cast at a12
      go_enter Try.func6, Try.ntmps6
      go_wp2_with (first
        | (go_at_call 5; (with_reducible refine Calls.mono (known_any _) ?_); rintro e w1 ⟨rfl, hb⟩; have HB := hb; clear hb)
        | (go_at_call 27; (with_reducible refine Calls.mono (bA _) ?_); rintro e w2 ⟨Aa, ca, rfl, ha, hb⟩; replace HB := below_call HB hb; clear hb)
        | (go_at_call 27; (with_reducible refine Calls.mono (bB _) ?_); rintro e w3 ⟨Ab, cb, rfl, hbb, hb⟩; replace ha := nextI ha hb; replace HB := below_call HB hb; clear hb)
        | (go_at_call 27; (with_reducible refine Calls.mono (bX _) ?_); rintro e w4 ⟨Ax, cx, rfl, hx, hb⟩; replace ha := nextI ha hb; replace hbb := nextI hbb hb; replace HB := below_call HB hb; clear hb)
        | (go_at_call 27; (with_reducible refine Calls.mono (bY _) ?_); rintro e w5 ⟨Ay, cy, rfl, hy, hb⟩; replace ha := nextI ha hb; replace hbb := nextI hbb hb; replace hx := nextI hx hb; replace HB := below_call HB hb; clear hb)
        | (go_at_call 12; (with_reducible refine Calls.mono (a12 _ _ _ hx) ?_); rintro e w6 ⟨rfl, hb⟩; replace ha := nextI ha hb; replace hbb := nextI hbb hb; replace hx := nextI hx hb; replace hy := nextI hy hb; replace HB := below_call HB hb; clear hb)
        | (go_at_call 14; (with_reducible refine Calls.mono (a14 _ _ _ hx) ?_); rintro e w7 ⟨rfl, hb⟩; replace ha := nextI ha hb; replace hbb := nextI hbb hb; replace hx := nextI hx hb; replace hy := nextI hy hb; replace HB := below_call HB hb; clear hb)
        | (go_at_call 20; (with_reducible refine Calls.mono (a20 _ _ _ hx) ?_); rintro e w8 ⟨rfl, hb⟩; replace ha := nextI ha hb; replace hbb := nextI hbb hb; replace hx := nextI hx hb; replace hy := nextI hy hb; replace HB := below_call HB hb; clear hb)
        | (go_at_call 26; (with_reducible refine Calls.mono (same_n Ax Ay cx cy 256 X HLX.out _ (by omega) hx hy) ?_); rintro e w9 ⟨rfl, hb⟩; replace ha := nextI ha hb; replace hbb := nextI hbb hb; replace hx := nextI hx hb; replace HB := below_call HB hb; clear hb hy)
        | (go_at_call 31; (with_reducible refine Calls.mono (sS _) ?_); rintro e w10 ⟨rfl, hb⟩; replace ha := nextI ha hb; replace hbb := nextI hbb hb; replace hx := nextI hx hb; replace HB := below_call HB hb; clear hb))
      obtain ⟨ba, oa, rfl, _, hca⟩ := ha (by rw [HLA.out]; omega)
      obtain ⟨bb, ob, rfl, _, hcb⟩ := hbb (by rw [HLB.out]; omega)
      obtain ⟨bx, ox, rfl, _, hcx⟩ := hx (by rw [HLX.out]; omega)
      rw [HLA.out] at hca
      rw [HLB.out] at hcb
      rw [HLX.out] at hcx
      have HCA := Lib.hid hca
      have HCB := Lib.hid hcb
      have HCX := Lib.hid hcx
      have HBL := Lib.hid HB
      clear ha hbb hx hca hcb hcx HB
      go_loopw [21] (fun z wr => ∃ (k m : Nat), k ≤ 256 ∧ z = .int .i64 (k : Int) ∧ wr = w10.drewN m) (fun z _ => 256 - (intOf z).toNat)
      case atStart => exact ⟨0, 0, by omega, rfl, rfl⟩
      case round =>
        obtain ⟨k, m, hk, rfl, rfl⟩ := hrel
        by_cases hlt : k < 256
        · have c1 := HCA.out k hlt
          have c2 := HCB.out k hlt
          have c3 := HCX.out k hlt
          have hb1 := HBA.out k
          have hb2 := HBB.out k
          have hs := HAD.out k hlt
          generalize A.getD k 0 = va at *
          generalize B.getD k 0 = vb at *
          generalize X.getD k 0 = vx at *
          have hw : IntKind.i64.wrap (va + vb) = vx := by rw [hs]; exact wraps_i64 vx (by omega) (by omega)
          clear hs
          go_wp2
          go_quiet (fail)
          go_wp2
          go_roundw
          case rel => exact ⟨k + 1, _, by omega, by go_num, rfl⟩
          case measure => simp [intOf]; omega
        · obtain rfl : k = 256 := by omega
          go_wp2
          go_ret
          exact ⟨rfl, Below.drewN' HBL.out _⟩
end Go.Proofs.Ytpmabmjfininoaa
