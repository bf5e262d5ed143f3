/- What SameFields answers. -/
import Derived.Test.YtkkdiciadkcmmaaSame
import Derived.Deep.RegionHeld
namespace Go.Proofs.Ytkkdiciadkcmmaa
open Go.RowKit

theorem Six.below {w w' : World} {b o : Nat} {i : It} (h : Six w b o i) (hb : Below w.heap.size w w') : Six w' b o i := by
  have hlt : b < w.heap.size := World.block_lt_of_cell? w _ h.c0
  have st : ∀ k v, w.cell? ⟨b, k, none⟩ = some v → w'.cell? ⟨b, k, none⟩ = some v := fun k v hv => by rw [hb.cell (p := ⟨b, k, none⟩) hlt]; exact hv
  exact ⟨st _ _ h.c0, st _ _ h.c1, st _ _ h.c2, st _ _ h.c3, st _ _ h.c4, st _ _ h.c5⟩

theorem six_two {w : World} {b1 o1 b2 o2 j : Nat} {x y : It} (h : Six w b1 (o1 + j * 6) x) (k : Six w b2 (o2 + j * 6) y) : w.cell? ⟨b1, o1 + j * 6, none⟩ = some (.int .u8 (x.fd.tag.toNat : Int)) ∧ w.cell? ⟨b1, o1 + j * 6 + 1, none⟩ = some (.int .u8 (x.fd.kind.toNat : Int)) ∧ w.cell? ⟨b1, o1 + j * 6 + 2, none⟩ = some (.int .i64 x.fd.n) ∧ w.cell? ⟨b1, o1 + j * 6 + 3, none⟩ = some (.string x.fd.text) ∧ w.cell? ⟨b1, o1 + j * 6 + 4, none⟩ = some (.slice x.na x.fd.ns.length x.nc) ∧ w.cell? ⟨b1, o1 + j * 6 + 5, none⟩ = some (.slice x.ta x.fd.texts.length x.tc) ∧ w.cell? ⟨b2, o2 + j * 6, none⟩ = some (.int .u8 (y.fd.tag.toNat : Int)) ∧ w.cell? ⟨b2, o2 + j * 6 + 1, none⟩ = some (.int .u8 (y.fd.kind.toNat : Int)) ∧ w.cell? ⟨b2, o2 + j * 6 + 2, none⟩ = some (.int .i64 y.fd.n) ∧ w.cell? ⟨b2, o2 + j * 6 + 3, none⟩ = some (.string y.fd.text) ∧ w.cell? ⟨b2, o2 + j * 6 + 4, none⟩ = some (.slice y.na y.fd.ns.length y.nc) ∧ w.cell? ⟨b2, o2 + j * 6 + 5, none⟩ = some (.slice y.ta y.fd.texts.length y.tc) :=
  ⟨h.c0, h.c1, h.c2, h.c3, h.c4, h.c5, k.c0, k.c1, k.c2, k.c3, k.c4, k.c5⟩

/-- The lists are of lengths that a machine holds. -/
def Short (i : It) : Prop := i.fd.ns.length ≤ 9223372036854775807 ∧ i.fd.texts.length ≤ 9223372036854775807

def Eqvs (s t : List It) : Prop := fds s = fds t

theorem eqvs_iff (s t : List It) (h : s.length = t.length) : Eqvs s t ↔ ∀ q (hq : q < s.length), s[q].fd = (t[q]'(by omega)).fd := by
  unfold Eqvs fds
  rw [list_ext (by simpa using h)]
  simp

set_option maxRecDepth 100000 in
set_option maxHeartbeats 4000000 in
theorem samefields_eqv (a1 a2 : Option Addr) (n1 n2 c1 c2 : Nat) (s1 s2 : List It) (w : World) (h1 : s1.length = n1) (h2 : s2.length = n2) (hn : n1 ≤ 9223372036854775807) (f1 : FAt w a1 s1) (f2 : FAt w a2 s2) (hs : ∀ i ∈ s1, Short i) :
    Calls Try.prog 20 #[.slice a1 n1 c1, .slice a2 n2 c2] w fun e w' => BoolIs (Eqvs s1 s2) w w' e := by
  by_cases hne : n1 = n2
  · subst hne
    have hiff := eqvs_iff s1 s2 (by omega)
    replace hiff := hid hiff
    go_enter Try.func20, Try.ntmps20
    go_wp2
    go_loopw [5] (fun i wr => ∃ j : Nat, j ≤ n1 ∧ i = .int .i64 j ∧ Below w.heap.size w wr ∧ ∀ q (hq : q < s1.length), q < j → s1[q].fd = (s2[q]'(by omega)).fd) (fun i _ => n1 - (intOf i).toNat)
    case atStart => exact ⟨0, Nat.zero_le _, rfl, Below.refl _ _, fun q _ hq => by omega⟩
    case round =>
      obtain ⟨j, hj, rfl, hb, hall⟩ := hrel
      by_cases hlt : j < n1
      · have g1 := (f1.below hb).below (Below.refl _ _).drew
        have g2 := (f2.below hb).below (Below.refl _ _).drew
        obtain ⟨b1, o1, rfl, hc1⟩ := g1.form (by intro e; subst e; simp at h1; omega)
        obtain ⟨b2, o2, rfl, hc2⟩ := g2.form (by intro e; subst e; simp at h2; omega)
        have x1 := hc1 j (by omega)
        have x2 := hc2 j (by omega)
        have i1 := g1.2 (s1[j]'(by omega)) (List.getElem_mem _)
        have i2 := g2.2 (s2[j]'(by omega)) (List.getElem_mem _)
        have sh := hs (s1[j]'(by omega)) (List.getElem_mem _)
        have hcall := samefield_eqv _ _ wr.drew i1 i2 sh.1 sh.2
        obtain ⟨x, hx⟩ : ∃ x, x = s1[j]'(by omega) := ⟨_, rfl⟩
        obtain ⟨y, hy⟩ : ∃ y, y = s2[j]'(by omega) := ⟨_, rfl⟩
        rw [← hx, ← hy] at hcall
        rw [← hx] at x1
        rw [← hy] at x2
        unfold It.val at hcall
        have hyes : x.fd = y.fd → ∀ q (hq : q < s1.length), q < j + 1 → s1[q].fd = (s2[q]'(by omega)).fd := fun e q hq hqj => by
          rcases Nat.lt_or_ge q j with h | h
          · exact hall q hq h
          · obtain rfl : q = j := by omega
            rw [← hx, ← hy]; exact e
        have hno : ¬ x.fd = y.fd → ¬ Eqvs s1 s2 := fun hne e => hne (by rw [hx, hy]; exact (hiff.out.1 e) j (by omega))
        have hbd : Below w.heap.size w wr.drew := hb.drew
        replace hyes := hid hyes
        replace hno := hid hno
        replace hall := hid hall
        replace hx := hid hx
        replace hy := hid hy
        replace h1 := hid h1
        replace h2 := hid h2
        clear hc1 hc2 i1 i2 sh f1 f2 g1 g2 hs
        go_wp2_with fail
        go_region_held (fun w' : World => w'.cell? ⟨b1, o1 + j * 6, none⟩ = some (.int .u8 (x.fd.tag.toNat : Int)) ∧ w'.cell? ⟨b1, o1 + j * 6 + 1, none⟩ = some (.int .u8 (x.fd.kind.toNat : Int)) ∧ w'.cell? ⟨b1, o1 + j * 6 + 2, none⟩ = some (.int .i64 x.fd.n) ∧ w'.cell? ⟨b1, o1 + j * 6 + 3, none⟩ = some (.string x.fd.text) ∧ w'.cell? ⟨b1, o1 + j * 6 + 4, none⟩ = some (.slice x.na x.fd.ns.length x.nc) ∧ w'.cell? ⟨b1, o1 + j * 6 + 5, none⟩ = some (.slice x.ta x.fd.texts.length x.tc) ∧ w'.cell? ⟨b2, o2 + j * 6, none⟩ = some (.int .u8 (y.fd.tag.toNat : Int)) ∧ w'.cell? ⟨b2, o2 + j * 6 + 1, none⟩ = some (.int .u8 (y.fd.kind.toNat : Int)) ∧ w'.cell? ⟨b2, o2 + j * 6 + 2, none⟩ = some (.int .i64 y.fd.n) ∧ w'.cell? ⟨b2, o2 + j * 6 + 3, none⟩ = some (.string y.fd.text) ∧ w'.cell? ⟨b2, o2 + j * 6 + 4, none⟩ = some (.slice y.na y.fd.ns.length y.nc) ∧ w'.cell? ⟨b2, o2 + j * 6 + 5, none⟩ = some (.slice y.ta y.fd.texts.length y.tc)) (first | exact six_two x1' x2' | exact six_two x1 x2) (first
          | (go_at_call 19; refine hcall.mono ?_; rintro e w3 ⟨r, rfl, hr, hb3⟩; have x1' := x1.below hb3; have x2' := x2.below hb3; replace hr := hid hr))
        all_goals
          replace hb3 := bnext hbd hb3
          cases r with
          | false =>
            go_wp2
            go_ret
            exact BoolIs.of false (ff_iff (hno.out (fun e => by have := hr.out.2 e; cases this))) hb3
          | true =>
            have hj1 := hid (hyes.out (hr.out.1 rfl))
            go_wp2
            go_roundw
            case rel => exact ⟨j + 1, by omega, by go_num, hb3, hj1.out⟩
            case measure => simp [intOf]; omega
      · obtain rfl : j = n1 := by omega
        have hyes : Eqvs s1 s2 := hiff.out.2 fun q hq => hall q hq (by omega)
        replace hall := hid hall
        replace hyes := hid hyes
        go_wp2
        go_ret
        exact BoolIs.of true (tt_iff hyes.out) hb
  · have hbn : ((n1 : Int) != (n2 : Int)) = true := by rw [bne_iff_ne]; omega
    have hno : ¬ Eqvs s1 s2 := fun e => hne (by have := congrArg List.length e; simp [fds] at this; omega)
    replace hno := hid hno
    go_enter Try.func20, Try.ntmps20
    go_wp2
    go_ret
    exact BoolIs.of false (ff_iff hno.out) (Below.refl _ _)

theorem samefields_yes (a1 a2 : Option Addr) (n1 n2 c1 c2 : Nat) (s1 s2 : List It) (w : World) (h1 : s1.length = n1) (h2 : s2.length = n2) (hn : n1 ≤ 9223372036854775807) (f1 : FAt w a1 s1) (f2 : FAt w a2 s2) (hs : ∀ i ∈ s1, Short i) (h : fds s1 = fds s2) :
    Calls Try.prog 20 #[.slice a1 n1 c1, .slice a2 n2 c2] w fun e w' => e = .returned (.bool true) ∧ Below w.heap.size w w' := by
  refine (samefields_eqv a1 a2 n1 n2 c1 c2 s1 s2 w h1 h2 hn f1 f2 hs).mono ?_
  rintro e w' ⟨r, rfl, hr, hb⟩
  rw [hr.2 h]
  exact ⟨rfl, hb⟩

theorem samefields_no (a1 a2 : Option Addr) (n1 n2 c1 c2 : Nat) (s1 s2 : List It) (w : World) (h1 : s1.length = n1) (h2 : s2.length = n2) (hn : n1 ≤ 9223372036854775807) (f1 : FAt w a1 s1) (f2 : FAt w a2 s2) (hs : ∀ i ∈ s1, Short i) (h : ¬ fds s1 = fds s2) :
    Calls Try.prog 20 #[.slice a1 n1 c1, .slice a2 n2 c2] w fun e w' => e = .returned (.bool false) ∧ Below w.heap.size w w' := by
  refine (samefields_eqv a1 a2 n1 n2 c1 c2 s1 s2 w h1 h2 hn f1 f2 hs).mono ?_
  rintro e w' ⟨r, rfl, hr, hb⟩
  cases r with
  | true => exact absurd (hr.1 rfl) h
  | false => exact ⟨rfl, hb⟩

end Go.Proofs.Ytkkdiciadkcmmaa
