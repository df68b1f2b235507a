/-
  Package dist: Read.
-/
import Derived.Test.YtaohhijjalcbiaaO8N
namespace Go.Proofs.Ytaohhijjalcbiaa
open Go.ChangeShapes Go.WideShapes Go.ChangeAt Go.RowKit
set_option linter.unusedVariables false
set_option linter.unusedSimpArgs false

/-- what Read gives: accuracy, probabilities, where it ends, error and offset -/
def rdOut (T : ByteArray) (at' most sym : Int) : Int × List Int × Int × Int × Int :=
  if rdE T most sym.toNat = 0 then
    (match rdR T sym.toNat with
     | some (l, B) => (5 + (numB T 0 4 : Nat), l, at' + ((B + 7) / 8 : Nat), 0, 0)
     | none => (0, [], 0, 23, at'))
  else (0, [], 0, rdE T most sym.toNat, at')
/-- what Read leaves -/
def RdLeft (o : Int × List Int × Int × Int × Int) (w : World) (r : Ending) (w' : World) : Prop :=
  ∃ (A : Option Addr) (c : Nat), r = .returned (.tuple #[.agg #[.int .i64 o.1, .slice A o.2.1.length c], .int .i64 o.2.2.1, .agg #[.int .i64 o.2.2.2.1, .int .i64 o.2.2.2.2]]) ∧ IntsAt w' w'.heap.size A o.2.1 ∧ o.2.1.length ≤ c ∧ Below w.heap.size w w'

theorem dfill_er (base g : Nat) (sym c : Int) (size : Int) (w : World) (hg : g < w.heap.size) (h : Er w base g sym c) :
    Calls Try.prog 41 #[.pointer (some ⟨g, 0, none⟩), .int .i64 size] w fun r w' => r = .returned (.tuple #[]) ∧ Er w' base g sym c ∧ Below g w w' := by
  have hO := fun u => pointsOf_c size u
  have hE : Er (w.alloc (.cells #[.int .i64 size] 3)) base g sym c := by
    obtain ⟨S, B, v, n, xs, h1, h2⟩ := h
    exact ⟨S, B, v, n, xs, ⟨blk_alloc h1.a _, h1.o.alloc _, h1.l, by have := h1.s; simp; omega⟩, h2⟩
  obtain ⟨n, hn⟩ := hE.cell
  unfold spt at hn
  have HE := Lib.hid hE
  have HB0 := Lib.hid (((Below.refl g w).alloc (Nat.le_of_lt hg) (.cells #[.int .i64 size] 3)))
  clear hE h
  go_enter Try.func41, Try.ntmps41
  go_step3
  go_wp2_with (go_at_call 48; (with_reducible refine (hO _).mono ?_); rintro e w' ⟨rfl, rfl⟩)
  go_step3
  go_wp2
  generalize w.alloc (.cells #[.int .i64 size] 3) = W at *
  go_loopw [4] (fun l wr => l = .int .i64 size ∧ wr = W) (fun _ _ => 0)
  case atStart => exact ⟨rfl, rfl⟩
  case round =>
    obtain ⟨rfl, rfl⟩ := hrel
    by_cases hs : 0 < size
    · go_wp2
      (try rw [Exit.noGoto_normal])
      go_end0
      exact ⟨rfl, HE.out, HB0.out⟩
    · go_wp2
      (try rw [Exit.noGoto_normal])
      go_end0
      exact ⟨rfl, HE.out, HB0.out⟩

theorem rdl_err {w w' : World} (hb : Below w.heap.size w w') (e a : Int) : RdLeft (0, [], 0, e, a) w (.returned (.tuple #[.agg #[.int .i64 0, .slice none 0 0], .int .i64 0, .agg #[.int .i64 e, .int .i64 a]])) w' := ⟨none, 0, rfl, fun h => absurd h (by simp), by simp, hb⟩
theorem range_c (S : ByteArray) (hS : S.size ≤ 1048576) (at' most sym : Int) (h : at' < 0 ∨ (S.size : Int) < at' ∨ most < 5 ∨ 12 < most ∨ sym < 1 ∨ 256 < sym) (w : World) :
    Calls Try.prog 24 #[.string S, .int .i64 at', .int .i64 most, .int .i64 sym] w (RdLeft (0, [], 0, 2, 0) w) := by
  by_cases h1 : at' < 0
  · go_enter Try.func24, Try.ntmps24
    go_wp2
    refine bodyPost_ret (v := .tuple #[.agg #[.int .i64 0, .slice none 0 0], .int .i64 0, .agg #[.int .i64 2, .int .i64 0]]) (by simp [results, Try.results24, go_sem]) rfl ?_
    exact rdl_err (bel_box (bel_box (Below.refl _ _) _) _) 2 0
  by_cases h2 : (S.size : Int) < at'
  · go_enter Try.func24, Try.ntmps24
    go_wp2
    refine bodyPost_ret (v := .tuple #[.agg #[.int .i64 0, .slice none 0 0], .int .i64 0, .agg #[.int .i64 2, .int .i64 0]]) (by simp [results, Try.results24, go_sem]) rfl ?_
    exact rdl_err (bel_box (bel_box (Below.refl _ _) _) _) 2 0
  by_cases h3 : most < 5
  · go_enter Try.func24, Try.ntmps24
    go_wp2
    refine bodyPost_ret (v := .tuple #[.agg #[.int .i64 0, .slice none 0 0], .int .i64 0, .agg #[.int .i64 2, .int .i64 0]]) (by simp [results, Try.results24, go_sem]) rfl ?_
    exact rdl_err (bel_box (bel_box (Below.refl _ _) _) _) 2 0
  by_cases h4 : 12 < most
  · go_enter Try.func24, Try.ntmps24
    go_wp2
    refine bodyPost_ret (v := .tuple #[.agg #[.int .i64 0, .slice none 0 0], .int .i64 0, .agg #[.int .i64 2, .int .i64 0]]) (by simp [results, Try.results24, go_sem]) rfl ?_
    exact rdl_err (bel_box (bel_box (Below.refl _ _) _) _) 2 0
  by_cases h5 : sym < 1
  · go_enter Try.func24, Try.ntmps24
    go_wp2
    refine bodyPost_ret (v := .tuple #[.agg #[.int .i64 0, .slice none 0 0], .int .i64 0, .agg #[.int .i64 2, .int .i64 0]]) (by simp [results, Try.results24, go_sem]) rfl ?_
    exact rdl_err (bel_box (bel_box (Below.refl _ _) _) _) 2 0
  · have h6 : 256 < sym := by omega
    go_enter Try.func24, Try.ntmps24
    go_wp2
    refine bodyPost_ret (v := .tuple #[.agg #[.int .i64 0, .slice none 0 0], .int .i64 0, .agg #[.int .i64 2, .int .i64 0]]) (by simp [results, Try.results24, go_sem]) rfl ?_
    exact rdl_err (bel_box (bel_box (Below.refl _ _) _) _) 2 0

theorem nex_val {S : ByteArray} {B : Nat} (hS : S.size ≤ 1048576) (hB : B ≤ 8 * S.size) : nexX S B = ((B + 7) / 8 : Nat) := by
  have e1 : rgt S B = 0 := by unfold rgt; rw [if_neg (by omega), if_neg (by omega)]
  unfold nexX
  rw [if_pos e1]
  omega
theorem Rd.of_nil {w : World} {g : Nat} {S : ByteArray} {B sym : Int} {e : Value} (base : Nat) (h : Blk w g 71 #[.string S, .int .i64 B, .int .i64 sym, .slice none 0 0, e]) (hl : g < base) (hs : base ≤ w.heap.size) : Rd w base g S B sym (.slice none 0 0) e [] := ⟨h, World.ownsRow_nil _ _ _ _, hl, hs⟩

/-- the accuracy, and all behind it: the error, or what was read -/
theorem told_case (T : ByteArray) (a most sym : Nat) (c : Int) (h : (rdE T most sym = c ∧ c ≠ 0) ∨ (rdE T most sym = 0 ∧ rdR T sym = none ∧ c = 23)) : rdOut T a most sym = (0, [], 0, c, (a : Int)) := by
  unfold rdOut
  rw [Int.toNat_natCast]
  rcases h with ⟨h1, h2⟩ | ⟨h1, h2, h3⟩
  · rw [h1, if_neg h2]
  · rw [if_pos h1, h2, h3]

/-- the first steps: a reader behind the accuracy -/
def LogLeft (g : Nat) (T : ByteArray) (most sym : Nat) (w : World) (r : Ending) (w' : World) : Prop :=
  ∃ log : Nat, r = .returned (.int .i64 (log : Int)) ∧ 5 ≤ log ∧ log ≤ 20 ∧ Below g w w' ∧ w.heap.size ≤ w'.heap.size ∧
    ((rdE T most sym ≠ 0 ∧ ∃ c, rdE T most sym = (if c = 31 then 31 else 23) ∧ Er w' (g + 1) g sym c) ∨
     (4 ≤ 8 * T.size ∧ log = 5 + numB T 0 4 ∧ log ≤ most ∧ Blk w' g 71 #[.string T, .int .i64 4, .int .i64 (sym : Int), .slice none 0 0, .nilIface] ∧ rdE T most sym = (if (rdR T sym).isSome = true then 0 else 23)))
theorem dlog_c (g : Nat) (T : ByteArray) (most sym : Nat) (hS : T.size ≤ 1048576) (hm0 : 5 ≤ most) (hm : most ≤ 12) (w : World) (h : Blk w g 71 #[.string T, .int .i64 0, .int .i64 (sym : Int), .slice none 0 0, .nilIface]) :
    Calls Try.prog 40 #[.pointer (some ⟨g, 0, none⟩), .int .i64 (most : Int)] w (LogLeft g T most sym w) := by
  have hr := Rd.of_nil (g + 1) h (by omega) (blk_lt h)
  have hx := numB_lt T 0 4
  have hgl := blk_lt h
  have hbe : ∀ w', Ex (g + 1) g w w' → Below g w w' ∧ w.heap.size ≤ w'.heap.size := fun w' hE => ⟨Ex.below (Below.refl g w) hE (by omega) (Nat.le_refl g), hE.size⟩
  by_cases h1 : 8 * T.size < 4
  · have e1 : rdE T most sym = 23 := by unfold rdE; rw [if_pos h1]
    refine (dlog_bad (g + 1) g T sym most _ hS h1 (by omega) (by omega) w hr).mono fun r w' q => ?_
    obtain ⟨q1, q2, q3⟩ := q
    exact ⟨5, q1, by omega, by omega, (hbe _ q3).1, (hbe _ q3).2, .inl ⟨by rw [e1]; decide, 5, by rw [e1]; decide, q2.er (by simp)⟩⟩
  · by_cases h2 : (most : Int) < 5 + (numB T 0 4 : Nat)
    · have e1 : rdE T most sym = 31 := by unfold rdE; rw [if_neg h1, if_pos h2]
      refine (dlog_high (g + 1) g T sym most _ hS (by omega) (by omega) (by omega) h2 w hr).mono fun r w' q => ?_
      obtain ⟨q1, q2, q3⟩ := q
      exact ⟨_, q1, by omega, by omega, (hbe _ q3).1, (hbe _ q3).2, .inl ⟨by rw [e1]; decide, 31, by rw [e1]; decide, q2.er (by simp)⟩⟩
    · have e1 : rdE T most sym = (if (rdR T sym).isSome = true then 0 else 23) := by unfold rdE; rw [if_neg h1, if_neg h2]
      refine (dlog_ok (g + 1) g T sym most _ hS (by omega) (by omega) (by omega) (by omega) w hr).mono fun r w' q => ?_
      obtain ⟨q1, q2, q3⟩ := q
      exact ⟨_, q1, by omega, by omega, (hbe _ q3).1, (hbe _ q3).2, .inr ⟨by omega, rfl, by omega, q2.a, e1⟩⟩
/-- all of it -/
def FillLeft (g : Nat) (T : ByteArray) (most sym : Nat) (w : World) (r : Ending) (w' : World) : Prop :=
  r = .returned (.tuple #[]) ∧ Below g w w' ∧
    ((rdE T most sym ≠ 0 ∧ ∃ c base, rdE T most sym = (if c = 31 then 31 else 23) ∧ Er w' base g sym c) ∨
     (rdE T most sym = 0 ∧ ∃ l B base v, rdR T sym = some (l, B) ∧ B ≤ 8 * T.size ∧ l.length ≤ sym ∧ Rd w' base g T ((B : Nat) : Int) sym v .nilIface l))
theorem dfill_all (g : Nat) (T : ByteArray) (most sym log : Nat) (hS : T.size ≤ 1048576) (hm : most ≤ 12) (hs : sym ≤ 256) (w : World) (hg : g < w.heap.size)
    (h : (rdE T most sym ≠ 0 ∧ ∃ c, rdE T most sym = (if c = 31 then 31 else 23) ∧ Er w (g + 1) g sym c) ∨
     (4 ≤ 8 * T.size ∧ log = 5 + numB T 0 4 ∧ log ≤ most ∧ Blk w g 71 #[.string T, .int .i64 4, .int .i64 (sym : Int), .slice none 0 0, .nilIface] ∧ rdE T most sym = (if (rdR T sym).isSome = true then 0 else 23))) :
    Calls Try.prog 41 #[.pointer (some ⟨g, 0, none⟩), .int .i64 (2 ^ log)] w (FillLeft g T most sym w) := by
  rcases h with ⟨h1, c, h2, h3⟩ | ⟨h1, h2, h3, h4, h5⟩
  · refine (dfill_er (g + 1) g sym c _ w hg h3).mono fun r w' q => ?_
    exact ⟨q.1, q.2.2, .inl ⟨h1, c, _, h2, q.2.1⟩⟩
  · have ha := two12 (L := log) (by omega)
    have hp := pow_pos' log
    refine (dfill_c g T sym (2 ^ log) hS hs (Int.le_of_lt hp) ha 4 h1 w hg h4).mono fun r w' q => ?_
    obtain ⟨q1, q2, q3⟩ := q
    have hR : rdL T sym 300 (2 ^ log) [] 4 = rdR T sym := by unfold rdR; rw [h2]
    rw [hR] at q2
    refine ⟨q1, q3, ?_⟩
    rcases q2 with ⟨l, B, v, q4, q5⟩ | ⟨c, q4, q5, q6⟩
    · obtain ⟨m, m1, m2, m3, m4, m5⟩ := rdL_in T sym 300 (2 ^ log) [] 4 l B ha (by simp) (hR.trans q4)
      exact .inr ⟨by rw [h5, q4]; rfl, l, B, _, v, q4, m5 h1, m2, q5⟩
    · exact .inl ⟨by rw [h5, q4]; decide, c, _, by rw [h5, q4, if_neg q5]; rfl, q6⟩

theorem shl_val {log : Nat} (h : log ≤ 20) : Value.int .i64 (wrap64 ((2 : Int) ^ log)) = .int .i64 (2 ^ log) := by
  have a : (2 : Nat) ^ log ≤ 2 ^ 20 := Nat.pow_le_pow_right (by omega) h
  have b := pow_cast log
  have c := pow_pos' log
  refine congrArg _ ?_
  generalize (2 : Int) ^ log = x at *
  unfold wrap64; omega
theorem own_ints {w : World} {base n : Nat} {v : Value} {xs : List Int} (h : w.ownsRow base 3 1 v n (xs.map (Value.int .i64))) : ∃ A c, v = .slice A xs.length c ∧ xs.length ≤ c ∧ ∀ w' : World, (∀ k, base ≤ k → k < w.heap.size → w'.heap[k]? = w.heap[k]?) → w.heap.size ≤ w'.heap.size → IntsAt w' w'.heap.size A xs := by
  have hn : xs.length = n := by simpa using h.1
  subst hn
  rcases h.2 with ⟨rfl, h0⟩ | ⟨g, cap, cur, rfl, hb, hg, hc, _, _, _⟩
  · exact ⟨none, 0, by rw [h0], by omega, fun _ _ _ h1 => absurd h1 (by omega)⟩
  · refine ⟨_, _, rfl, hc, fun w' hw hs _ => ⟨g, 0, rfl, ?_, fun k hk => ?_⟩⟩
    · rcases Nat.lt_or_ge g w.heap.size with hlt | hge
      · omega
      · rw [Array.getElem?_eq_none hge] at hg; cases hg
    · have hgs : g < w.heap.size := by
        rcases Nat.lt_or_ge g w.heap.size with hlt | hge
        · exact hlt
        · rw [Array.getElem?_eq_none hge] at hg; cases hg
      have e : w'.cell? ⟨g, 0 + k, none⟩ = w.cell? ⟨g, 0 + k, none⟩ := by simp only [World.cell?, hw g hb hgs]
      rw [e, Nat.zero_add, h.cellAt k (by omega)]
      simp [List.getD, hk]
set_option maxHeartbeats 1000000 in
theorem read_ok (S : ByteArray) (hS : S.size ≤ 1048576) (a most sym : Nat) (ha : a ≤ S.size) (hm1 : 5 ≤ most) (hm2 : most ≤ 12) (hs1 : 1 ≤ sym) (hs2 : sym ≤ 256) (w : World) :
    Calls Try.prog 24 #[.string S, .int .i64 (a : Int), .int .i64 (most : Int), .int .i64 (sym : Int)] w (RdLeft (rdOut (S.extract a S.size) a most sym) w) := by
  have hT : (S.extract a S.size).size = S.size - a := by simp
  have hTs : (S.extract a S.size).size ≤ 1048576 := by omega
  have hmin : min (S.size : Int) ((a : Int) + 1048576) = S.size := by omega
  have d1 : decide ((a : Int) < 0) = false := decide_eq_false (by omega)
  have d2 : decide (S.size < a) = false := by simpa using ha
  have d3 : decide ((most : Int) < 5) = false := decide_eq_false (by omega)
  have d4 : decide (12 < (most : Int)) = false := decide_eq_false (by omega)
  have d5 : decide ((sym : Int) < 1) = false := decide_eq_false (by omega)
  have d6 : decide (256 < (sym : Int)) = false := decide_eq_false (by omega)
  have hlog := fun g u hu => dlog_c g (S.extract a S.size) most sym hTs hm1 hm2 u hu
  have hfill := fun g log u hg hu => dfill_all g (S.extract a S.size) most sym log hTs hm2 hs2 u hg hu
  have hval := fun c hc => told_case (S.extract a S.size) a most sym c hc
  clear hT
  generalize hTT : S.extract a S.size = T at *
  have HLOG := Lib.hid hlog
  have HFILL := Lib.hid hfill
  have HVAL := Lib.hid hval
  clear hlog hfill hval
  go_enter Try.func24, Try.ntmps24
  go_upto_region 4 with fail
  have k8 := blk_alloc (blk_alloc (blk_new w 24 #[.int .i64 0, .slice none 0 0]) (.cells #[.int .i64 0, .int .i64 0] 39)) (.cells #[.string T, .int .i64 0, .int .i64 (sym : Int), .slice none 0 0, .nilIface] 71)
  have k10 := blk_alloc (blk_new2 w (.cells #[.int .i64 0, .slice none 0 0] 24) 39 #[.int .i64 0, .int .i64 0]) (.cells #[.string T, .int .i64 0, .int .i64 (sym : Int), .slice none 0 0, .nilIface] 71)
  have kg : Blk (((w.alloc (.cells #[.int .i64 0, .slice none 0 0] 24)).alloc (.cells #[.int .i64 0, .int .i64 0] 39)).alloc (.cells #[.string T, .int .i64 0, .int .i64 (sym : Int), .slice none 0 0, .nilIface] 71)) (w.heap.size + 1 + 1) 71 #[.string T, .int .i64 0, .int .i64 (sym : Int), .slice none 0 0, .nilIface] := by
    have k := blk_new ((w.alloc (.cells #[.int .i64 0, .slice none 0 0] 24)).alloc (.cells #[.int .i64 0, .int .i64 0] 39)) 71 #[.string T, .int .i64 0, .int .i64 (sym : Int), .slice none 0 0, .nilIface]
    rwa [show ((w.alloc (.cells #[.int .i64 0, .slice none 0 0] 24)).alloc (.cells #[.int .i64 0, .int .i64 0] 39)).heap.size = w.heap.size + 1 + 1 by simp] at k
  have hbW := bel_box (bel_box (bel_box (Below.refl w.heap.size w) (.cells #[.int .i64 0, .slice none 0 0] 24)) (.cells #[.int .i64 0, .int .i64 0] 39)) (.cells #[.string T, .int .i64 0, .int .i64 (sym : Int), .slice none 0 0, .nilIface] 71)
  generalize ((w.alloc (.cells #[.int .i64 0, .slice none 0 0] 24)).alloc (.cells #[.int .i64 0, .int .i64 0] 39)).alloc (.cells #[.string T, .int .i64 0, .int .i64 (sym : Int), .slice none 0 0, .nilIface] 71) = W at *
  have hg8 : w.heap.size < w.heap.size + 1 + 1 := by omega
  have hg10 : w.heap.size + 1 < w.heap.size + 1 + 1 := by omega
  have K8 := Lib.hid k8
  have K10 := Lib.hid k10
  have KG := Lib.hid kg
  have HBW := Lib.hid hbW
  have hgW := blk_lt kg
  clear k8 k10 kg hbW
  go_upto_region 6 with (first
    | (go_at_call 40; (with_reducible refine (HLOG.out _ _ KG.out).mono ?_); rintro e w1 ⟨log, rfl, hlo, hhi, hb1, hz1, hc1⟩; have HV := Lib.hid (show rdE T most sym = 0 → log = 5 + numB T 0 4 from fun h0 => by rcases hc1 with q | q; exact absurd h0 q.1; exact q.2.1); have HC1 := Lib.hid hc1; have HB1 := Lib.hid hb1; have hg1 := Nat.lt_of_lt_of_le hgW hz1; have hsh := shl_val hhi; clear hc1 hb1 hz1)
    | (go_at_call 41; (with_reducible refine (HFILL.out _ _ _ hg1 HC1.out).mono ?_); rintro e w2 ⟨rfl, hb2, hc2⟩))
  have H8 := Lib.hid (blk_below (blk_below K8.out HB1.out hg8) hb2 hg8)
  have H10 := Lib.hid (blk_below (blk_below K10.out HB1.out hg10) hb2 hg10)
  have HBL := Lib.hid ((HBW.out.trans (HB1.out.mono (by omega))).trans (hb2.mono (by omega)))
  clear hb2 K8 K10 KG HBW HB1 HC1 hg1 hgW hsh
  rcases hc2 with ⟨hne, c, base, hE, her⟩ | ⟨h00, l, B, base, v, hR, hBl, hl, hrd⟩
  · obtain ⟨n, hn⟩ := her.cell
    have htd := fun u => told_c c n u
    rw [← hE] at htd
    have hout := HVAL.out _ (.inl ⟨rfl, hne⟩)
    have HOUT := Lib.hid hout
    generalize rdE T most sym = ce at *
    clear hE her hout hne HVAL HV
    unfold spt at hn htd
    go_wp2_with (go_at_call 42; (with_reducible refine (htd _).mono ?_); rintro e w3 ⟨rfl, hb3⟩; have k8 := blk_below H8.out hb3 (blk_lt H8.out); have k10 := blk_below H10.out hb3 (blk_lt H10.out); have z8 := blk_lt k8; have z10 := blk_lt k10; have y80 := blk_cell k8 0; have y81 := blk_cell k8 1; have f80 := blk_frozen k8 0; have f81 := blk_frozen k8 1; have y100 := blk_cell k10 0; have y101 := blk_cell k10 1; have f100 := blk_frozen k10 0; have f101 := blk_frozen k10 1)
    refine bodyPost_ret (v := .tuple #[.agg #[.int .i64 0, .slice none 0 0], .int .i64 0, .agg #[.int .i64 ce, .int .i64 a]]) (by simp [results, Try.results24, go_sem, y80, y81, y100, y101]) rfl ?_
    rw [HOUT.out]
    have hB3 := bel_call HBL.out hb3
    exact rdl_err ((((hB3.setCell (Nat.le_refl _) _).setCell (Nat.le_refl _) _).setCell (Nat.le_succ _) _).setCell (Nat.le_succ _) _) ce a
  · obtain ⟨A, cp, rfl⟩ := hrd.slice
    obtain ⟨⟨c0, c1, c2, c3, c4⟩, _⟩ := rd_cells hrd.a
    have hnx := fun u => ownNext_any T B (max_len hTs) u
    rw [nex_val hTs hBl] at hnx
    have hrg : rgt T B = 0 := by unfold rgt; rw [if_neg (by omega), if_neg (by omega)]
    rw [hrg] at hnx
    have hout : rdOut T a most sym = ((5 + (numB T 0 4 : Nat) : Int), l, ((a : Int) + ((B + 7) / 8 : Nat) : Int), (0 : Int), (0 : Int)) := by
      unfold rdOut
      rw [Int.toNat_natCast, if_pos h00, hR]
    have HOUT := Lib.hid hout
    have hnn : (B + 7) / 8 ≤ 1048576 := by omega
    generalize (B + 7) / 8 = nn at *
    have HRD := Lib.hid hrd
    have HV2 := Lib.hid (HV.out h00)
    clear hrg hout h00 hR HVAL hBl hrd HV
    go_wp2_with (go_at_call 43; (with_reducible refine (hnx _).mono ?_); rintro e w3 ⟨rfl, hb3⟩; have k8 := blk_below H8.out hb3 (blk_lt H8.out); have k10 := blk_below H10.out hb3 (blk_lt H10.out); have z8 := blk_lt k8; have z10 := blk_lt k10; have y80 := blk_cell k8 0; have y81 := blk_cell k8 1; have f80 := blk_frozen k8 0; have f81 := blk_frozen k8 1; have y100 := blk_cell k10 0; have y101 := blk_cell k10 1; have f100 := blk_frozen k10 0; have f101 := blk_frozen k10 1; obtain ⟨⟨x0, x1, x2, x3, x4⟩, _⟩ := rd_cells (blk_below HRD.out.a hb3 (blk_lt HRD.out.a)))
    obtain ⟨A2, c2', hv, hlc, hII⟩ := own_ints (HRD.out.below hb3).o
    cases hv
    refine bodyPost_ret (v := .tuple #[.agg #[.int .i64 (log : Int), .slice A l.length cp], .int .i64 ((a : Int) + nn), .agg #[.int .i64 0, .int .i64 0]]) (by simp [results, Try.results24, go_sem, y80, y81, y100, y101]) rfl ?_
    rw [HOUT.out]
    have hB3 := bel_call HBL.out hb3
    have hgb := HRD.out.l
    refine ⟨A, cp, ?_, hII _ (fun k hk hks => ?_) (by simp [World.setCell]), hlc, ((((hB3.setCell (Nat.le_refl _) _).setCell (Nat.le_refl _) _).setCell (Nat.le_succ _) _).setCell (Nat.le_succ _) _)⟩
    · have e := HV2.out
      rw [show (5 + (numB T 0 4 : Nat) : Int) = (log : Int) by omega]
    · rw [Below.heap_setCell _ _ _ k (by show k ≠ w.heap.size + 1; omega), Below.heap_setCell _ _ _ k (by show k ≠ w.heap.size + 1; omega), Below.heap_setCell _ _ _ k (by show k ≠ w.heap.size; omega), Below.heap_setCell _ _ _ k (by show k ≠ w.heap.size; omega)]
end Go.Proofs.Ytaohhijjalcbiaa
