/-
  The reference of package counts: Halve.
-/
import Derived.Test.YtpmabmjfininoaaApn
import Derived.Test.YtpmabmjfininoaaO6T
import Derived.Test.YtpmabmjfininoaaR6A
namespace Go.Proofs.Ytpmabmjfininoaa
open Go.ChangeShapes Go.WideShapes Go.ChangeAt Go.RowKit Go.Shelf
set_option linter.unusedVariables false
set_option linter.unusedSimpArgs false

theorem hlv_snoc {zs : List Int} {k : Nat} (h : k < zs.length) (g : ∀ z ∈ zs, 0 ≤ z ∧ z ≤ 1099511627776) : hlv (zs.take (k + 1)) = hlv (zs.take k) ++ [(zs.getD k 0 + 1) / 2] := by
  rw [take_snoc h]
  unfold hlv
  rw [List.map_append]
  have e : zs.getD k 0 = zs[k] := by simp [List.getD, h]
  have hk := g _ (List.getElem_mem h)
  rw [← e] at hk
  have e2 : zs.getD k 0 - zs.getD k 0 / 2 = (zs.getD k 0 + 1) / 2 := by omega
  simp only [List.map_cons, List.map_nil, e2]

/-- halved counts, or nothing -/
def halL (zs : List Int) : List Int := if chk zs = 0 then hlv zs else []
theorem rhalve_c {A : Option Addr} {n : Nat} {zs : List Int} (cap : Nat) {w : World} (h : Cts w A n zs) :
    Calls Try.prog 25 #[.slice A n cap] w (ResP w (halL zs) (chk zs)) := by
  have hck := rcheck_c cap h
  unfold halL
  by_cases hc0 : chk zs = 0
  · obtain ⟨g1, g2, g3⟩ := good_of hc0
    rw [if_pos hc0]
    rw [hc0] at hck ⊢
    obtain ⟨hl, hn, hI⟩ := h
    subst hl
    have HI := Lib.hid hI
    have HG := Lib.hid g2
    clear hI g2 g3 hc0
    go_enter Try.func25, Try.ntmps25
    go_wp2_with (go_at_call 11; (with_reducible refine hck.mono ?_); rintro r w1 ⟨rfl, hb1⟩)
    have HB := Lib.hid hb1
    have hs1 := hb1.size
    clear hb1
    have hnil := World.ownsRow_nil w1 w.heap.size 3 1
    go_loopw [5, 6] (fun v i wr => ∃ (k : Nat), k ≤ zs.length ∧ i = .int .i64 (k : Int) ∧ wr.ownsRow w.heap.size 3 1 v k ((hlv (zs.take k)).map (Value.int .i64)) ∧ Below w.heap.size w wr) (fun _ i _ => zs.length - (intOf i).toNat)
    case atStart => exact ⟨0, by omega, rfl, hnil, HB.out⟩
    case round =>
      obtain ⟨k, hk, rfl, hown, hbw⟩ := hrel
      by_cases hlt : k < zs.length
      · obtain ⟨b, off, hA, hb, hc⟩ := HI.out (by omega)
        subst hA
        have hcell := (hbw.cell (p := ⟨b, off + k, none⟩) hb).trans (hc k hlt)
        have hsn := Lib.hid (hlv_snoc hlt HG.out)
        have hz : 0 ≤ zs.getD k 0 ∧ zs.getD k 0 ≤ 1099511627776 := by
          have e : zs.getD k 0 = zs[k] := by simp [List.getD, hlt]
          rw [e]; exact HG.out _ (List.getElem_mem hlt)
        clear hc
        generalize zs.getD k 0 = z at *
        obtain ⟨h1, h2⟩ := hz
        go_wp2_with (at_builtin; refine append_one rfl (.tmp 18) (.tmp 25) rfl w.heap.size u5 k (hlv (zs.take k)) ((z + 1) / 2) rfl hown rfl ?c1 ?c2 ?_)
        case c1 => omega
        case c2 => exact hbw.size
        intro v' w' hown2 hg
        have hlt' := hown.lt
        have hb' := (hbw.alloc hbw.size (.cells #[.int .i64 ((z + 1) / 2)] 3)).grown hg (by have := hbw.size; simp; omega) (fun q hq => (hlt' q hq).1)
        have hown3 := Lib.hid hown2
        clear hown2 hown hg hlt'
        go_wp2
        go_roundw
        case rel => exact ⟨k + 1, by omega, by go_num, by rw [hsn.out, List.map_append]; exact hown3.out, hb'⟩
        case measure => simp [intOf]; omega
      · obtain rfl : k = zs.length := by omega
        rw [List.take_length] at hown
        obtain ⟨A', c', rfl, hI'⟩ := ints_of_own hown
        have HI' := Lib.hid hI'
        have hll := Lib.hid (hlv_length zs)
        clear hown hI'
        go_wp2
        go_ret2
        exact ⟨A', c', rfl, HI'.out, hbw⟩
  · rw [if_neg hc0]
    have h1 : (chk zs != 0) = true := by simpa using hc0
    clear h hc0
    generalize chk zs = y at *
    go_enter Try.func25, Try.ntmps25
    go_wp2_with (go_at_call 11; (with_reducible refine hck.mono ?_); rintro r w1 ⟨rfl, hb1⟩)
    go_ret2
    exact ⟨none, 0, rfl, fun h => absurd h (by decide), hb1⟩
end Go.Proofs.Ytpmabmjfininoaa
