/- What SameNumbers, SameTexts and SameField answer. -/
import Derived.Test.YtkkdiciadkcmmaaAll2
namespace Go.Proofs.Ytkkdiciadkcmmaa
open Go.RowKit

theorem text_ne {s t : ByteArray} (h : s ≠ t) : (s.toList == t.toList) = false := by
  rw [beq_eq_false_iff_ne, ByteArray.toList_eq, ByteArray.toList_eq]; exact fun e => h (WideShapes.bytes_inj e)

theorem list_ext {α : Type} {l m : List α} (h : l.length = m.length) : l = m ↔ ∀ q (hq : q < l.length), l[q] = m[q]'(by omega) := by
  constructor
  · rintro rfl q _; rfl
  · intro hh; exact List.ext_getElem h fun i h1 h2 => hh i h1

set_option maxHeartbeats 1000000 in
theorem samenums_any (a1 a2 : Option Addr) (n1 n2 c1 c2 : Nat) (ns ms : List Int) (w : World) (h1 : ns.length = n1) (h2 : ms.length = n2) (hb1 : n1 ≤ 9223372036854775807) (at1 : NAt w a1 ns) (at2 : NAt w a2 ms) :
    Calls Try.prog 41 #[.slice a1 n1 c1, .slice a2 n2 c2] w fun e w' => ∃ r, e = .returned (.bool r) ∧ (r = true ↔ ns = ms) ∧ Below w.heap.size w w' := by
  by_cases hne : n1 = n2
  · subst hne
    rw [list_ext (by omega)]
    go_enter Try.func41, Try.ntmps41
    go_wp2
    go_loopw [5] (fun i wr => ∃ j : Nat, j ≤ n1 ∧ i = .int .i64 j ∧ Below w.heap.size w wr ∧ ∀ q (hq : q < ns.length), q < j → ns[q] = ms[q]'(by omega)) (fun i _ => n1 - (intOf i).toNat)
    case atStart => exact ⟨0, Nat.zero_le _, rfl, Below.refl _ _, fun q _ hq => by omega⟩
    case round =>
      obtain ⟨j, hj, rfl, hb, hall⟩ := hrel
      by_cases hlt : j < n1
      · obtain ⟨b, o, rfl, hc⟩ := NAt.form (CAt.below at1 hb) (by intro e; subst e; simp at h1; omega)
        obtain ⟨b', o', rfl, hc'⟩ := NAt.form (CAt.below at2 hb) (by intro e; subst e; simp at h2; omega)
        have x1 := hc j (by omega)
        have x2 := hc' j (by omega)
        clear hc hc'
        by_cases he : ns[j]'(by omega) = ms[j]'(by omega)
        · have hall' : ∀ q (hq : q < ns.length), q < j + 1 → ns[q] = ms[q]'(by omega) := fun q hq hqj => by
            rcases Nat.lt_or_ge q j with h | h
            · exact hall q hq h
            · obtain rfl : q = j := by omega
              exact he
          rw [← he] at x2
          replace hall := hid hall
          replace hall' := hid hall'
          replace he := hid he
          generalize ns[j]'(by omega) = x at *
          replace h1 := hid h1
          replace h2 := hid h2
          go_wp2_with fail
          go_quiet (fail)
          go_wp2
          go_roundw
          case rel => exact ⟨j + 1, by omega, by go_num, below_drewN hb _, hall'.out⟩
          case measure => simp [intOf]; omega
        · have hno : ¬ ∀ q (hq : q < ns.length), ns[q] = ms[q]'(by omega) := fun e => he (e j (by omega))
          have hbn : ((ns[j]'(by omega)) != (ms[j]'(by omega))) = true := by rw [bne_iff_ne]; exact he
          replace hno := hid hno
          replace hall := hid hall
          replace he := hid he
          generalize ns[j]'(by omega) = x at *
          generalize ms[j]'(by omega) = y at *
          replace h1 := hid h1
          replace h2 := hid h2
          go_wp2_with fail
          go_quiet (fail)
          go_wp2
          go_ret
          exact ⟨false, rfl, ff_iff hno.out, below_drewN hb _⟩
      · obtain rfl : j = n1 := by omega
        have hyes : ∀ q (hq : q < ns.length), ns[q] = ms[q]'(by omega) := fun q hq => hall q hq (by omega)
        replace hall := hid hall
        replace hyes := hid hyes
        go_wp2
        go_ret
        exact ⟨true, rfl, tt_iff hyes.out, hb⟩
  · have hbn : ((n1 : Int) != (n2 : Int)) = true := by rw [bne_iff_ne]; omega
    go_enter Try.func41, Try.ntmps41
    go_wp2
    go_ret
    exact ⟨false, rfl, ff_iff (fun e => hne (by rw [← h1, ← h2, e])), Below.refl _ _⟩

set_option maxHeartbeats 1000000 in
theorem sametexts_any (a1 a2 : Option Addr) (n1 n2 c1 c2 : Nat) (ns ms : List ByteArray) (w : World) (h1 : ns.length = n1) (h2 : ms.length = n2) (hb1 : n1 ≤ 9223372036854775807) (at1 : TAt w a1 ns) (at2 : TAt w a2 ms) :
    Calls Try.prog 42 #[.slice a1 n1 c1, .slice a2 n2 c2] w fun e w' => ∃ r, e = .returned (.bool r) ∧ (r = true ↔ ns = ms) ∧ Below w.heap.size w w' := by
  by_cases hne : n1 = n2
  · subst hne
    rw [list_ext (by omega)]
    go_enter Try.func42, Try.ntmps42
    go_wp2
    go_loopw [5] (fun i wr => ∃ j : Nat, j ≤ n1 ∧ i = .int .i64 j ∧ Below w.heap.size w wr ∧ ∀ q (hq : q < ns.length), q < j → ns[q] = ms[q]'(by omega)) (fun i _ => n1 - (intOf i).toNat)
    case atStart => exact ⟨0, Nat.zero_le _, rfl, Below.refl _ _, fun q _ hq => by omega⟩
    case round =>
      obtain ⟨j, hj, rfl, hb, hall⟩ := hrel
      by_cases hlt : j < n1
      · obtain ⟨b, o, rfl, hc⟩ := TAt.form (CAt.below at1 hb) (by intro e; subst e; simp at h1; omega)
        obtain ⟨b', o', rfl, hc'⟩ := TAt.form (CAt.below at2 hb) (by intro e; subst e; simp at h2; omega)
        have x1 := hc j (by omega)
        have x2 := hc' j (by omega)
        clear hc hc'
        by_cases he : ns[j]'(by omega) = ms[j]'(by omega)
        · have hall' : ∀ q (hq : q < ns.length), q < j + 1 → ns[q] = ms[q]'(by omega) := fun q hq hqj => by
            rcases Nat.lt_or_ge q j with h | h
            · exact hall q hq h
            · obtain rfl : q = j := by omega
              exact he
          rw [← he] at x2
          replace hall := hid hall
          replace hall' := hid hall'
          replace he := hid he
          generalize ns[j]'(by omega) = x at *
          replace h1 := hid h1
          replace h2 := hid h2
          go_wp2_with fail
          go_quiet (fail)
          go_wp2
          go_roundw
          case rel => exact ⟨j + 1, by omega, by go_num, below_drewN hb _, hall'.out⟩
          case measure => simp [intOf]; omega
        · have hno : ¬ ∀ q (hq : q < ns.length), ns[q] = ms[q]'(by omega) := fun e => he (e j (by omega))
          have hbn : ((ns[j]'(by omega)).toList == (ms[j]'(by omega)).toList) = false := text_ne he
          replace hno := hid hno
          replace hall := hid hall
          replace he := hid he
          generalize ns[j]'(by omega) = x at *
          generalize ms[j]'(by omega) = y at *
          replace h1 := hid h1
          replace h2 := hid h2
          go_wp2_with fail
          go_quiet (fail)
          go_wp2
          go_ret
          exact ⟨false, rfl, ff_iff hno.out, below_drewN hb _⟩
      · obtain rfl : j = n1 := by omega
        have hyes : ∀ q (hq : q < ns.length), ns[q] = ms[q]'(by omega) := fun q hq => hall q hq (by omega)
        replace hall := hid hall
        replace hyes := hid hyes
        go_wp2
        go_ret
        exact ⟨true, rfl, tt_iff hyes.out, hb⟩
  · have hbn : ((n1 : Int) != (n2 : Int)) = true := by rw [bne_iff_ne]; omega
    go_enter Try.func42, Try.ntmps42
    go_wp2
    go_ret
    exact ⟨false, rfl, ff_iff (fun e => hne (by rw [← h1, ← h2, e])), Below.refl _ _⟩

theorem byte_ne {s t : UInt8} (h : s ≠ t) : ((s.toNat : Int) == (t.toNat : Int)) = false := by
  rw [beq_eq_false_iff_ne]; exact fun e => h (UInt8.toNat_inj.1 (by omega))

/-- The same, told so that no tactic looks into it. -/
def Eqv (f g : Fd) : Prop := f = g

/-- The call answers whether p holds. -/
def BoolIs (p : Prop) (w w' : World) (e : Ending) : Prop := ∃ r, e = .returned (.bool r) ∧ (r = true ↔ p) ∧ Below w.heap.size w w'
theorem BoolIs.of {p : Prop} {w w' : World} (r : Bool) (h : r = true ↔ p) (hb : Below w.heap.size w w') : BoolIs p w w' (.returned (.bool r)) := ⟨r, rfl, h, hb⟩

set_option maxRecDepth 100000 in
set_option maxHeartbeats 4000000 in
theorem samefield_eqv (i j : It) (w : World) (hi : ItAt w i) (hj : ItAt w j) (hb1 : i.fd.ns.length ≤ 9223372036854775807) (hb2 : i.fd.texts.length ≤ 9223372036854775807) :
    Calls Try.prog 19 #[i.val, j.val] w fun e w' => BoolIs (Eqv i.fd j.fd) w w' e := by
  obtain ⟨⟨tag, kind, n, text, ns, texts⟩, na, nc, ta, tc⟩ := i
  obtain ⟨⟨tag', kind', n', text', ns', texts'⟩, na', nc', ta', tc'⟩ := j
  have hns : NAt w na ns := hi.ns
  have hts : TAt w ta texts := hi.ts
  have hns' : NAt w na' ns' := hj.ns
  have hts' : TAt w ta' texts' := hj.ts
  clear hi hj
  dsimp only at hb1 hb2
  have hiff : ∀ r : Bool, (r = true ↔ (tag = tag' ∧ kind = kind' ∧ n = n' ∧ text = text' ∧ ns = ns' ∧ texts = texts')) → (r = true ↔ Eqv ⟨tag, kind, n, text, ns, texts⟩ ⟨tag', kind', n', text', ns', texts'⟩) := fun r h => by rw [h]; unfold Eqv; simp
  dsimp only
  unfold It.val
  dsimp only
  replace hiff := hid hiff
  have hbl : Below w.heap.size w ((w.alloc (.cells #[.int .u8 (tag.toNat : Int), .int .u8 (kind.toNat : Int), .int .i64 n, .string text, .slice na ns.length nc, .slice ta texts.length tc] 30)).alloc (.cells #[.int .u8 (tag'.toNat : Int), .int .u8 (kind'.toNat : Int), .int .i64 n', .string text', .slice na' ns'.length nc', .slice ta' texts'.length tc'] 30)) := bnext (below_lit w _) (below_lit _ _)
  by_cases h1 : tag = tag'
  · subst h1
    by_cases h2 : kind = kind'
    · subst h2
      by_cases h3 : n = n'
      · subst h3
        by_cases h4 : text = text'
        · subst h4
          have hcall := samenums_any na na' ns.length ns'.length nc nc' ns ns' _ rfl rfl hb1 (CAt.below hns hbl) (CAt.below hns' hbl)
          have g1 := (heap_two w (.cells #[.int .u8 (tag.toNat : Int), .int .u8 (kind.toNat : Int), .int .i64 n, .string text, .slice na ns.length nc, .slice ta texts.length tc] 30) (.cells #[.int .u8 (tag.toNat : Int), .int .u8 (kind.toNat : Int), .int .i64 n, .string text, .slice na' ns'.length nc', .slice ta' texts'.length tc'] 30))
          go_enter Try.func19, Try.ntmps19
          go_wp2_with fail
          refine hcall.mono ?_
          rintro e w2 ⟨r, rfl, hr, hb2'⟩
          replace hr := hid hr
          have k1 : RB w2 w.heap.size _ _ _ _ _ _ := RB.below g1.1 hb2'
          have k2 : RB w2 (w.heap.size + 1) _ _ _ _ _ _ := RB.below g1.2 hb2'
          replace hb2' := bnext hbl hb2'
          cases r with
          | false =>
            go_wp2
            go_ret
            exact BoolIs.of false (hiff.out false (ff_iff (fun e => by have := hr.out.2 e.2.2.2.2.1; cases this))) hb2'
          | true =>
            have hcall2 := sametexts_any ta ta' texts.length texts'.length tc tc' texts texts' w2 rfl rfl hb2 (CAt.below hts hb2') (CAt.below hts' hb2')
            have k3 := k1.six.c5
            have k4 := k2.six.c5
            go_wp2_with fail
            refine hcall2.mono ?_
            rintro e w3 ⟨r3, rfl, hr3, hb3⟩
            replace hr3 := hid hr3
            go_wp2
            go_ret
            exact BoolIs.of r3 (hiff.out r3 ⟨fun e => ⟨by trivial, by trivial, by trivial, by trivial, hr.out.1 (by trivial), hr3.out.1 e⟩, fun e => hr3.out.2 e.2.2.2.2.2⟩) (bnext hb2' hb3)
        · have e4 := text_ne h4
          replace h4 := hid h4
          go_enter Try.func19, Try.ntmps19
          go_wp2
          go_ret
          exact BoolIs.of false (hiff.out false (ff_iff (fun e => h4.out e.2.2.2.1))) hbl
      · have e3 : (n == n') = false := by rw [beq_eq_false_iff_ne]; exact h3
        replace h3 := hid h3
        go_enter Try.func19, Try.ntmps19
        go_wp2
        go_ret
        exact BoolIs.of false (hiff.out false (ff_iff (fun e => h3.out e.2.2.1))) hbl
    · have e2 := byte_ne h2
      replace h2 := hid h2
      go_enter Try.func19, Try.ntmps19
      go_wp2
      go_ret
      exact BoolIs.of false (hiff.out false (ff_iff (fun e => h2.out e.2.1))) hbl
  · have e1 := byte_ne h1
    replace h1 := hid h1
    go_enter Try.func19, Try.ntmps19
    go_wp2
    go_ret
    exact BoolIs.of false (hiff.out false (ff_iff (fun e => h1.out e.1))) hbl

theorem samefield_any (i j : It) (w : World) (hi : ItAt w i) (hj : ItAt w j) (hb1 : i.fd.ns.length ≤ 9223372036854775807) (hb2 : i.fd.texts.length ≤ 9223372036854775807) :
    Calls Try.prog 19 #[i.val, j.val] w fun e w' => ∃ r, e = .returned (.bool r) ∧ (r = true ↔ i.fd = j.fd) ∧ Below w.heap.size w w' := samefield_eqv i j w hi hj hb1 hb2

end Go.Proofs.Ytkkdiciadkcmmaa
