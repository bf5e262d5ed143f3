/- What the program's sums (the closure, More, Crc) and the document's More answer: the plain function; for every slice of bytes of at most 2^62 elements. -/
import Derived.Test.YtcbgnodmamcmkaaMem
import Derived.Laws.BitsAllLaws
import Derived.Laws.Unary
namespace Go.Proofs.Ytcbgnodmamcmkaa
open Go.RowKit

/-- The captured register: a block of one cell. -/
def Cell (w : World) (g : Nat) (r : Nat) : Prop := w.heap[g]? = some (.cells #[.int .u32 (r : Int)] 136 (0, 0))

theorem Cell.cell {w : World} {g r : Nat} (h : Cell w g r) : w.cell? ⟨g, 0, none⟩ = some (.int .u32 (r : Int)) := cell_of_one h

theorem Cell.free {w : World} {g r : Nat} (h : Cell w g r) : w.frozen? ⟨g, 0, none⟩ = false := free_of_one h

theorem Cell.set {w : World} {g r : Nat} (h : Cell w g r) (s : Nat) : Cell (w.setCell ⟨g, 0, none⟩ (.int .u32 (s : Int))) g s := one_setCell h

theorem unlike_val (r c : Nat) (hr : r < 4294967296) (hc : c < 4294967296) : bits .and .u32 (bits .xor .u32 (r : Int) (c : Int)) 1 = (((r + c) % 2 : Nat) : Int) := by
  rw [u32_xor_nat r c hr hc]
  have := u32_and_nat (r ^^^ c) 1 (xor_lt32 hr hc) (by omega)
  rw [show ((1 : Nat) : Int) = 1 from rfl] at this
  rw [this, nat_mask1, xor_mod]

theorem xor_poly (r : Nat) (hr : r < 4294967296) : bits .xor .u32 ((r : Int) / 2) 3988292384 = ((r / 2 ^^^ 3988292384 : Nat) : Int) := by
  have := u32_xor_nat (r / 2) 3988292384 (by omega) (by omega)
  exact this

set_option maxHeartbeats 400000 in
theorem turn_any (g r c : Nat) (w : World) (hr : r < 4294967296) (hc : c < 4294967296) (hg : Cell w g r) :
    Calls Try.prog 105 #[.int .u32 (c : Int), .pointer (some ⟨g, 0, none⟩)] w fun e w' => e = .returned (.tuple #[]) ∧ Cell w' g (bit1 r c) ∧ Below g w w' ∧ w'.heap.size = w.heap.size := by
  have h1 := hg.cell
  have h2 := hg.free
  have hu := unlike_val r c hr hc
  by_cases k : (r + c) % 2 = 1
  · rw [k] at hu
    have hp := xor_poly r hr
    have e : bit1 r c = r / 2 ^^^ 3988292384 := by unfold bit1; rw [if_neg (by omega)]
    rw [e]
    clear k e
    go_enter Try.func105, Try.ntmps105
    go_wp2
    go_end0
    exact ⟨rfl, (hg.set (r / 2)).set _, ((Below.refl g w).setCell (show g ≤ (⟨g, 0, none⟩ : Addr).block from Nat.le_refl g) _).setCell (show g ≤ (⟨g, 0, none⟩ : Addr).block from Nat.le_refl g) _, by rw [World.size_setCell, World.size_setCell]⟩
  · have k' : (r + c) % 2 = 0 := by omega
    rw [k'] at hu
    have e : bit1 r c = r / 2 := by unfold bit1; rw [if_pos (by omega)]
    rw [e]
    clear k k' e
    go_enter Try.func105, Try.ntmps105
    go_wp2
    go_end0
    exact ⟨rfl, hg.set (r / 2), (Below.refl g w).setCell (show g ≤ (⟨g, 0, none⟩ : Addr).block from Nat.le_refl g) _, by rw [World.size_setCell]⟩

theorem turned_val (s : Nat) (h : s < 4294967296) : bits .xor .u32 IntKind.u32.max (s : Int) = ((4294967295 - s : Nat) : Int) := by
  have h1 := u32_xor_nat 4294967295 s (by omega) h
  rw [Nat.xor_comm, ← turned s h] at h1
  exact h1

theorem Cell.new (w : World) (r : Nat) : Cell (w.alloc (.cells #[.int .u32 (r : Int)] 136)) w.heap.size r := heap_alloc_new w _

theorem turn_of (g r c : Nat) (x : Int) (w : World) (hx : x = c) (hr : r < 4294967296) (hc : c < 4294967296) (hg : Cell w g r) :
    Calls Try.prog 105 #[.int .u32 x, .pointer (some ⟨g, 0, none⟩)] w fun e w' => e = .returned (.tuple #[]) ∧ Cell w' g (bit1 r c) ∧ Below g w w' ∧ w'.heap.size = w.heap.size := by
  subst hx; exact turn_any g r c w hr hc hg

theorem shr_lt (x : UInt8) (j : Nat) : x.toNat / 2 ^ j < 256 := Nat.lt_of_le_of_lt (Nat.div_le_self _ _) x.toNat_lt

theorem shr_val (x : UInt8) (j : Nat) : (x.toNat : Int) / 2 ^ j % 4294967296 = ((x.toNat / 2 ^ j : Nat) : Int) := by
  have h := shr_lt x j
  have e : (x.toNat : Int) / 2 ^ j = ((x.toNat / 2 ^ j : Nat) : Int) := by simp
  rw [e]
  generalize x.toNat / 2 ^ j = n at h
  omega

theorem ival {k : IntKind} {a b : Int} (h : a = b) : Value.int k a = Value.int k b := by rw [h]

set_option maxHeartbeats 1000000 in
theorem more_any (s len cap : Nat) (a : Option Addr) (l : List UInt8) (w : World) (hs : s < 4294967296) (hl : l.length = len) (hlen : len ≤ 4611686018427387904) (hat : At w a l) :
    Calls Try.prog 97 #[.int .u32 (s : Int), .slice a len cap] w fun e w' => e = .returned (.int .u32 (moreOf s l : Int)) ∧ Below w.heap.size w w' := by
  subst hl
  have hts := turned_val s hs
  go_enter Try.func97, Try.ntmps97
  go_wp2
  go_loopw [15] (fun i wr => ∃ k : Nat, k ≤ l.length ∧ i = .int .i64 k ∧ Cell wr w.heap.size (reg (4294967295 - s) (l.take k)) ∧ Below w.heap.size w wr) (fun i _ => l.length - (intOf i).toNat)
  case atStart => exact ⟨0, Nat.zero_le _, rfl, Cell.new w _, below_lit w _⟩
  case round =>
    obtain ⟨k, hk, rfl, hc, hb⟩ := hrel
    by_cases hlt : k < l.length
    · obtain ⟨b, o, rfl, hcell⟩ := hat (by intro e; subst e; simp at hlt)
      obtain ⟨_, _, he, hcw⟩ := (hat.below hb) (by intro e; subst e; simp at hlt)
      cases he
      have hbb := hcw k hlt
      clear hcw hcell
      obtain ⟨wo, rfl⟩ : ∃ wo : World, wo = wr := ⟨_, rfl⟩
      go_wp2
      go_loopw [19] (fun i wr => ∃ j : Nat, j ≤ 8 ∧ i = .int .i64 j ∧ Cell wr w.heap.size (upTo (reg (4294967295 - s) (l.take k)) l[k].toNat j) ∧ Below w.heap.size w wr) (fun i _ => 8 - (intOf i).toNat)
      case atStart => exact ⟨0, Nat.zero_le _, rfl, hc, hb⟩
      case round =>
        obtain ⟨j, hj, rfl, hc2, hb2⟩ := hrel
        by_cases hj8 : j < 8
        · go_wp2_with fail
          refine (turn_of w.heap.size _ (l[k].toNat / 2 ^ j) _ _ (shr_val l[k] j) (upTo_lt _ _ _ (reg_lt _ _ (by omega))) (by have := shr_lt l[k] j; omega) hc2).mono ?_
          rintro e w1 ⟨rfl, hc3, hb3, hz3⟩
          go_wp2
          go_roundw
          case rel => exact ⟨j + 1, by omega, by go_num, hc3, hb2.trans hb3⟩
          case measure => simp [intOf]; omega
        · have hj8' : j = 8 := by omega
          subst hj8'
          go_wp2
          go_roundw
          case rel => exact ⟨k + 1, by omega, by go_num, by rw [take_snoc l k hlt, reg_snoc]; exact hc2, hb2⟩
          case measure => simp [intOf]; omega
    · have hkl : k = l.length := by omega
      subst hkl
      rw [List.take_length] at hc
      have h1 := hc.cell
      have ht2 := turned_val _ (reg_lt (4294967295 - s) l (by omega))
      go_wp2
      go_ret
      exact ⟨rfl, hb⟩

theorem crc_any (len cap : Nat) (a : Option Addr) (l : List UInt8) (w : World) (hl : l.length = len) (hlen : len ≤ 4611686018427387904) (hat : At w a l) :
    Calls Try.prog 80 #[.slice a len cap] w fun e w' => e = .returned (.int .u32 (crcOf l : Int)) ∧ Below w.heap.size w w' := by
  go_enter Try.func80, Try.ntmps80
  go_wp2_with fail
  refine (more_any 0 len cap a l _ (by omega) hl hlen hat).mono ?_
  rintro e w' ⟨rfl, hb⟩
  go_wp2
  go_ret
  exact ⟨rfl, hb⟩

theorem tmod_val (x : UInt8) (j : Nat) : ((x.toNat : Int) % 4294967296 / 2 ^ j).tmod 2 = ((x.toNat / 2 ^ j % 2 : Nat) : Int) := by
  have h := x.toNat_lt
  have e0 : (x.toNat : Int) % 4294967296 = (x.toNat : Int) := by omega
  have e : (x.toNat : Int) / 2 ^ j = ((x.toNat / 2 ^ j : Nat) : Int) := by simp
  rw [e0, e, Int.tmod_eq_emod_of_nonneg (Int.natCast_nonneg _)]
  exact (Int.natCast_emod _ 2).symm

theorem unlike_yes (x : UInt8) (j U : Nat) (h : (((x.toNat : Int) % 4294967296 / 2 ^ j).tmod 2 != (U : Int) % 2) = true) : ¬ U % 2 = x.toNat / 2 ^ j % 2 := by
  rw [tmod_val, bne_iff_ne] at h
  omega

theorem unlike_no (x : UInt8) (j U : Nat) (h : (((x.toNat : Int) % 4294967296 / 2 ^ j).tmod 2 != (U : Int) % 2) = false) : U % 2 = x.toNat / 2 ^ j % 2 := by
  rw [tmod_val, bne_eq_false_iff_eq] at h
  omega

theorem step_eq (r c : Nat) (h : r % 2 = c % 2) : bit1 r c = r / 2 := by unfold bit1; rw [if_pos h]

theorem step_ne (r c : Nat) (h : ¬ r % 2 = c % 2) : bit1 r c = r / 2 ^^^ 3988292384 := by unfold bit1; rw [if_neg h]

set_option maxHeartbeats 1000000 in
theorem refmore_any (s len cap : Nat) (a : Option Addr) (l : List UInt8) (w : World) (hs : s < 4294967296) (hl : l.length = len) (hlen : len ≤ 4611686018427387904) (hat : At w a l) :
    Calls Try.prog 88 #[.int .u32 (s : Int), .slice a len cap] w fun e w' => e = .returned (.int .u32 (moreOf s l : Int)) ∧ w' = w := by
  subst hl
  go_enter Try.func88, Try.ntmps88
  go_wp2
  go_loop [5, 6] (fun r i => ∃ k : Nat, k ≤ l.length ∧ i = .int .i64 k ∧ r = .int .u32 (reg (4294967295 - s) (l.take k) : Int)) (fun _ i => l.length - (intOf i).toNat)
  case atStart => exact ⟨0, Nat.zero_le _, rfl, ival (by rw [List.take_zero, reg_nil]; omega)⟩
  case round =>
    obtain ⟨k, hk, rfl, rfl⟩ := hrel
    have hR := reg_lt (4294967295 - s) (l.take k) (by omega)
    by_cases hlt : k < l.length
    · obtain ⟨b, o, rfl, hcell⟩ := hat (by intro e; subst e; simp at hlt)
      have hx := hcell k hlt
      clear hcell
      go_wp2
      go_loop [5, 7] (fun r i => ∃ j : Nat, j ≤ 8 ∧ i = .int .i64 j ∧ r = .int .u32 (upTo (reg (4294967295 - s) (l.take k)) l[k].toNat j : Int)) (fun _ i => 8 - (intOf i).toNat)
      case atStart => exact ⟨0, Nat.zero_le _, rfl, rfl⟩
      case round =>
        obtain ⟨j, hj, rfl, rfl⟩ := hrel
        have hU := upTo_lt _ l[k].toNat j hR
        by_cases hj8 : j < 8
        · go_wp2
          · rename_i hne
            go_round
            case rel =>
              refine ⟨j + 1, by omega, by go_num, ?_⟩
              rw [show upTo (reg (4294967295 - s) (List.take k l)) l[k].toNat (j + 1) = _ from step_ne _ _ (unlike_yes _ _ _ hne)]
              exact ival (xor_poly _ hU)
            case measure => simp [intOf]; omega
          · rename_i hne
            go_round
            case rel =>
              refine ⟨j + 1, by omega, by go_num, ?_⟩
              rw [show upTo (reg (4294967295 - s) (List.take k l)) l[k].toNat (j + 1) = _ from step_eq _ _ (unlike_no _ _ _ hne)]
              exact ival (by simp)
            case measure => simp [intOf]; omega
        · have hj8' : j = 8 := by omega
          subst hj8'
          go_wp2
          go_round
          case rel => exact ⟨k + 1, by omega, by go_num, by rw [take_snoc l k hlt, reg_snoc]⟩
          case measure => simp [intOf]; omega
    · have hkl : k = l.length := by omega
      subst hkl
      rw [List.take_length] at hR ⊢
      go_wp2
      go_ret
      exact ⟨ret_int (by unfold moreOf; omega), rfl⟩

end Go.Proofs.Ytcbgnodmamcmkaa
