/- What Right answers. -/
import Derived.Test.YtkkdiciadkcmmaaRight2
namespace Go.Proofs.Ytkkdiciadkcmmaa
open Go.RowKit

theorem ff_iff {p : Prop} (h : ¬ p) : (false = true ↔ p) := ⟨fun e => absurd e (by decide), fun e => absurd e h⟩
theorem tt_iff {p : Prop} (h : p) : (true = true ↔ p) := ⟨fun _ => h, fun _ => rfl⟩

def fds (its : List It) : List Fd := its.map It.fd

theorem little_any (tg k : Int) (n : Int) (text : ByteArray) (na ta : Option Addr) (nl tl nc tc : Nat) (ts : List ByteArray) (w : World) (htl : ts.length = tl) (hat : TAt w ta ts) :
    Calls Try.prog 30 #[.agg #[.int .u8 tg, .int .u8 k, .int .i64 n, .string text, .slice na nl nc, .slice ta tl tc]] w fun e w' => ∃ r, e = .returned (.bool r) ∧ (r = true ↔ Little text.size nl ts) ∧ Below w.heap.size w w' := by
  by_cases h : Little text.size nl ts
  · refine (little_yes tg k n text na ta nl tl nc tc ts w htl hat h).mono ?_
    rintro e w' ⟨rfl, hb⟩
    exact ⟨true, rfl, by simp [h], hb⟩
  · refine (little_no tg k n text na ta nl tl nc tc ts w htl hat h).mono ?_
    rintro e w' ⟨rfl, hb⟩
    exact ⟨false, rfl, by simp [h], hb⟩

/-- A field in a block of its own. -/
def FBlk (w : World) (g : Nat) (i : It) : Prop := w.heap[g]? = some (.cells #[.int .u8 (i.fd.tag.toNat : Int), .int .u8 (i.fd.kind.toNat : Int), .int .i64 i.fd.n, .string i.fd.text, .slice i.na i.fd.ns.length i.nc, .slice i.ta i.fd.texts.length i.tc] 30 (0, 0))

structure Six0 (w : World) (g : Nat) (i : It) : Prop where
  c0 : w.cell? ⟨g, 0, none⟩ = some (.int .u8 (i.fd.tag.toNat : Int))
  c1 : w.cell? ⟨g, 1, none⟩ = some (.int .u8 (i.fd.kind.toNat : Int))
  c2 : w.cell? ⟨g, 2, none⟩ = some (.int .i64 i.fd.n)
  c3 : w.cell? ⟨g, 3, none⟩ = some (.string i.fd.text)
  c4 : w.cell? ⟨g, 4, none⟩ = some (.slice i.na i.fd.ns.length i.nc)
  c5 : w.cell? ⟨g, 5, none⟩ = some (.slice i.ta i.fd.texts.length i.tc)

theorem FBlk.six {w : World} {g : Nat} {i : It} (h : FBlk w g i) : Six0 w g i := by
  unfold FBlk at h
  constructor <;> simp [World.cell?, h]

theorem FBlk.lt {w : World} {g : Nat} {i : It} (h : FBlk w g i) : g < w.heap.size := (Array.getElem?_eq_some_iff.1 h).1
theorem FBlk.below {w w' : World} {g : Nat} {i : It} (h : FBlk w g i) (hb : Below w.heap.size w w') : FBlk w' g i := by
  unfold FBlk; rw [hb.block g h.lt]; exact h
theorem FBlk.free {w : World} {g : Nat} {i : It} (h : FBlk w g i) (j : Nat) : w.frozen? ⟨g, j, none⟩ = false := by unfold FBlk at h; simp [World.frozen?, h]
theorem FBlk.new (w : World) (i : It) : FBlk (w.alloc (.cells #[.int .u8 (i.fd.tag.toNat : Int), .int .u8 (i.fd.kind.toNat : Int), .int .i64 i.fd.n, .string i.fd.text, .slice i.na i.fd.ns.length i.nc, .slice i.ta i.fd.texts.length i.tc] 30)) w.heap.size i := heap_alloc_new w _

theorem right_iff (its : List It) : Right (fds its) ↔ its.length ≤ 64 ∧ ∀ q (hq : q < its.length), Good its[q].fd ∧ (0 < q → (its[q - 1]'(by omega)).fd.tag < its[q].fd.tag) := by
  unfold Right fds
  simp

set_option maxRecDepth 100000 in
set_option maxHeartbeats 4000000 in
theorem right_any (a : Option Addr) (len cap : Nat) (its : List It) (w : World) (hl : its.length = len) (hat : FAt w a its) :
    Calls Try.prog 10 #[.slice a len cap] w fun e w' => ∃ r, e = .returned (.bool r) ∧ (r = true ↔ Right (fds its)) ∧ Below w.heap.size w w' := by
  rw [right_iff]
  by_cases h64 : len ≤ 64
  · have hlast : ∀ r : Bool, (r = true ↔ ∀ q (hq : q < its.length), Good its[q].fd ∧ (0 < q → (its[q - 1]'(by omega)).fd.tag < its[q].fd.tag)) → (r = true ↔ its.length ≤ 64 ∧ ∀ q (hq : q < its.length), Good its[q].fd ∧ (0 < q → (its[q - 1]'(by omega)).fd.tag < its[q].fd.tag)) := fun r h => ⟨fun e => ⟨by omega, h.1 e⟩, fun e => h.2 e.2⟩
    replace hlast := hid hlast
    go_enter Try.func10, Try.ntmps10
    go_wp2
    go_loopw [10] (fun i wr => ∃ j : Nat, j ≤ len ∧ i = .int .i64 j ∧ Below w.heap.size w wr ∧ ∀ q (hq : q < its.length), q < j → Good its[q].fd ∧ (0 < q → (its[q - 1]'(by omega)).fd.tag < its[q].fd.tag)) (fun i _ => len - (intOf i).toNat)
    case atStart => exact ⟨0, Nat.zero_le _, rfl, Below.refl _ _, fun q _ hq => by omega⟩
    case round =>
      obtain ⟨j, hj, rfl, hb, hall⟩ := hrel
      by_cases hlt : j < len
      · have hatw := hat.below hb
        obtain ⟨b, o, rfl, hc⟩ := hatw.form (by intro e; subst e; simp at hl; omega)
        obtain ⟨c0, c1, c2, c3, c4, c5⟩ := hc j (by omega)
        have hit := hatw.2 (its[j]'(by omega)) (List.getElem_mem _)
        have hgood := kindR_iff (its[j]'(by omega))
        obtain ⟨it, hit0⟩ : ∃ it, it = its[j]'(by omega) := ⟨_, rfl⟩
        rw [← hit0] at c0 c1 c2 c3 c4 c5 hit hgood
        obtain ⟨kr, hkr⟩ : ∃ r, r = kindR it.fd.kind it.fd.n it.fd.text it.fd.ns.length it.fd.texts.length := ⟨_, rfl⟩
        rw [← hkr] at hgood
        by_cases hj0 : j = 0
        · have hd : decide (0 < j) = false := decide_eq_false (by omega)
          have hno : ∀ (hg : ¬ Good it.fd), ¬ ∀ q (hq : q < its.length), Good its[q].fd ∧ (0 < q → (its[q - 1]'(by omega)).fd.tag < its[q].fd.tag) := fun hg e => hg (by rw [hit0]; exact (e j (by omega)).1)
          have hyes : Good it.fd → ∀ q (hq : q < its.length), q < j + 1 → Good its[q].fd ∧ (0 < q → (its[q - 1]'(by omega)).fd.tag < its[q].fd.tag) := fun hg q hq hqj => by
            obtain rfl : q = j := by omega
            exact ⟨by rw [hit0] at hg; exact hg, fun h => by omega⟩
          replace hit0 := hid hit0
          replace hall := hid hall
          replace hl := hid hl
          replace hj0 := hid hj0
          replace hno := hid hno
          replace hyes := hid hyes
          replace hkr := hid hkr
          replace hgood := hid hgood
          clear hc
          have hfb := FBlk.new wr it
          have hbl := below_lit wr (.cells #[.int .u8 (it.fd.tag.toNat : Int), .int .u8 (it.fd.kind.toNat : Int), .int .i64 it.fd.n, .string it.fd.text, .slice it.na it.fd.ns.length it.nc, .slice it.ta it.fd.texts.length it.tc] 30)
          go_wp2_with fail
          go_quiet (fail)
          replace hfb := hfb.below (below_drewN (Below.refl _ _) nq)
          replace hbl := below_drewN hbl nq
          generalize World.drewN _ nq = w1 at *
          have hts := CAt.below hit.ts hbl
          replace hb := bnext hb hbl
          generalize wr.heap.size = g at *
          obtain ⟨f0, f1, f2, f3, f4, f5⟩ := hfb.six
          go_wp2_with fail
          refine (kind_raw _ _ _ _ _ _ _ _ _ _ _).mono ?_
          rintro e w2 ⟨rfl, hb2⟩
          rw [← hkr.out]
          replace hts := CAt.below hts hb2
          replace hfb := hfb.below hb2
          replace hb := bnext hb hb2
          obtain ⟨d0, d1, d2, d3, d4, d5⟩ := hfb.six
          cases kr with
          | false =>
            go_wp2
            go_ret
            exact ⟨false, rfl, hlast.out false (ff_iff (hno.out (fun hg => by have := (hgood.out.2 hg).1; cases this))), hb⟩
          | true =>
            go_wp2_with fail
            refine (little_any _ _ _ _ _ _ _ _ _ _ it.fd.texts _ rfl hts).mono ?_
            rintro e w3 ⟨r, rfl, hr, hb3⟩
            replace hb := bnext hb hb3
            cases r with
            | false =>
              go_wp2
              go_ret
              exact ⟨false, rfl, hlast.out false (ff_iff (hno.out (fun hg => by have := hr.2 (hgood.out.2 hg).2; cases this))), hb⟩
            | true =>
              have hg := hgood.out.1 ⟨by trivial, hr.1 rfl⟩
              go_wp2
              go_roundw
              case rel => exact ⟨j + 1, by omega, by go_num, hb, hyes.out hg⟩
              case measure => simp [intOf]; omega
        · obtain ⟨p, rfl⟩ : ∃ p, j = p + 1 := ⟨j - 1, by omega⟩
          obtain ⟨p0, _, _, _, _, _⟩ := hc p (by omega)
          obtain ⟨pt, hpt⟩ : ∃ t, t = (its[p]'(by omega)).fd.tag := ⟨_, rfl⟩
          rw [← hpt] at p0
          clear hc hj0
          have hpl : p < len := by omega
          have hblt : b < wr.heap.size := World.block_lt_of_cell? wr _ p0
          have hw : IntKind.i64.wrap (p : Int) = (p : Int) := by rw [IntKind.wrap_i64]; omega
          by_cases htag : pt < it.fd.tag
          · have hd2 : decide ((it.fd.tag.toNat : Int) ≤ (pt.toNat : Int)) = false := decide_eq_false (by have := UInt8.lt_iff_toNat_lt.1 htag; omega)
            have hd3 : decide (it.fd.tag.toNat ≤ pt.toNat) = false := decide_eq_false (by have := UInt8.lt_iff_toNat_lt.1 htag; omega)
            have hno : ∀ (hg : ¬ Good it.fd), ¬ ∀ q (hq : q < its.length), Good its[q].fd ∧ (0 < q → (its[q - 1]'(by omega)).fd.tag < its[q].fd.tag) := fun hg e => hg (by rw [hit0]; exact (e (p + 1) (by omega)).1)
            have hyes : Good it.fd → ∀ q (hq : q < its.length), q < p + 1 + 1 → Good its[q].fd ∧ (0 < q → (its[q - 1]'(by omega)).fd.tag < its[q].fd.tag) := fun hg q hq hqj => by
              rcases Nat.lt_or_ge q (p + 1) with h | h
              · exact hall q hq h
              · obtain rfl : q = p + 1 := by omega
                rw [hit0] at hg
                refine ⟨hg, fun _ => ?_⟩
                rw [hpt, hit0] at htag
                simpa using htag
            replace hit0 := hid hit0
            replace hall := hid hall
            replace hl := hid hl
            replace hkr := hid hkr
            replace hgood := hid hgood
            replace hpt := hid hpt
            replace hno := hid hno
            replace hyes := hid hyes
            have hfb := FBlk.new wr it
            have hbl := below_lit wr (.cells #[.int .u8 (it.fd.tag.toNat : Int), .int .u8 (it.fd.kind.toNat : Int), .int .i64 it.fd.n, .string it.fd.text, .slice it.na it.fd.ns.length it.nc, .slice it.ta it.fd.texts.length it.tc] 30)
            go_wp2_with fail
            go_quiet (fail)
            replace hfb := hfb.below (below_drewN (Below.refl _ _) nq)
            replace hbl := below_drewN hbl nq
            generalize World.drewN _ nq = w1 at *
            have hts := CAt.below hit.ts hbl
            replace hb := bnext hb hbl
            generalize wr.heap.size = g at *
            obtain ⟨f0, f1, f2, f3, f4, f5⟩ := hfb.six
            go_wp2_with fail
            refine (kind_raw _ _ _ _ _ _ _ _ _ _ _).mono ?_
            rintro e w2 ⟨rfl, hb2⟩
            rw [← hkr.out]
            replace hts := CAt.below hts hb2
            replace hfb := hfb.below hb2
            replace hb := bnext hb hb2
            obtain ⟨d0, d1, d2, d3, d4, d5⟩ := hfb.six
            cases kr with
            | false =>
              go_wp2
              go_ret
              exact ⟨false, rfl, hlast.out false (ff_iff (hno.out (fun hg => by have := (hgood.out.2 hg).1; cases this))), hb⟩
            | true =>
              go_wp2_with fail
              refine (little_any _ _ _ _ _ _ _ _ _ _ it.fd.texts _ rfl hts).mono ?_
              rintro e w3 ⟨r, rfl, hr, hb3⟩
              replace hb := bnext hb hb3
              cases r with
              | false =>
                go_wp2
                go_ret
                exact ⟨false, rfl, hlast.out false (ff_iff (hno.out (fun hg => by have := hr.2 (hgood.out.2 hg).2; cases this))), hb⟩
              | true =>
                have hg := hgood.out.1 ⟨by trivial, hr.1 rfl⟩
                go_wp2
                go_roundw
                case rel => exact ⟨p + 1 + 1, by omega, by go_num, hb, hyes.out hg⟩
                case measure => simp [intOf]; omega
          · have hle : it.fd.tag.toNat ≤ pt.toNat := Nat.le_of_not_lt fun h => htag (UInt8.lt_iff_toNat_lt.2 h)
            have hd2 : decide ((it.fd.tag.toNat : Int) ≤ (pt.toNat : Int)) = true := decide_eq_true (by omega)
            have hd3 : decide (it.fd.tag.toNat ≤ pt.toNat) = true := decide_eq_true hle
            have hno : ¬ ∀ q (hq : q < its.length), Good its[q].fd ∧ (0 < q → (its[q - 1]'(by omega)).fd.tag < its[q].fd.tag) := fun e => htag (by
              have := (e (p + 1) (by omega)).2 (by omega)
              rw [hit0, hpt]
              simpa using this)
            replace hit0 := hid hit0
            replace hall := hid hall
            replace hl := hid hl
            replace hkr := hid hkr
            replace hgood := hid hgood
            replace hpt := hid hpt
            replace hno := hid hno
            replace hb := bnext hb (below_lit wr (.cells #[.int .u8 (it.fd.tag.toNat : Int), .int .u8 (it.fd.kind.toNat : Int), .int .i64 it.fd.n, .string it.fd.text, .slice it.na it.fd.ns.length it.nc, .slice it.ta it.fd.texts.length it.tc] 30))
            go_wp2_with fail
            go_quiet (fail)
            go_wp2
            go_ret
            exact ⟨false, rfl, hlast.out false (ff_iff hno.out), below_drewN hb _⟩
      · have hjn : j = len := by omega
        subst hjn
        have hyes : ∀ q (hq : q < its.length), Good its[q].fd ∧ (0 < q → (its[q - 1]'(by omega)).fd.tag < its[q].fd.tag) := fun q hq => hall q hq (by omega)
        replace hall := hid hall
        replace hyes := hid hyes
        go_wp2
        go_ret
        exact ⟨true, rfl, hlast.out true (tt_iff hyes.out), hb⟩
  · have h65 : 64 < len := by omega
    go_enter Try.func10, Try.ntmps10
    go_wp2
    go_ret
    exact ⟨false, rfl, ff_iff (fun e => absurd e.1 (by omega)), Below.refl _ _⟩
end Go.Proofs.Ytkkdiciadkcmmaa
