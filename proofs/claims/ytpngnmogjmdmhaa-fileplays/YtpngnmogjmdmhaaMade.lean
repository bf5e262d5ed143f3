/- What Made makes is told by its seed; markByte. -/
import Derived.Test.YtpngnmogjmdmhaaCall
namespace Go.Proofs.Ytpngnmogjmdmhaa
open Go.RowKit

def mkB (k i : Nat) : UInt8 := UInt8.ofNat (IntKind.u64.wrap ((1000003 * ((k : Int) + 7) + (i : Int)) * 11400714819323198485) / 72057594037927936 % 256).toNat

theorem u8_int (X : Int) : (((UInt8.ofNat (X % 256).toNat).toNat : Nat) : Int) = X % 256 := by
  rw [UInt8.toNat_ofNat']
  omega

set_option maxRecDepth 100000 in
theorem mark_any (k i : Nat) (w : World) (hk : k ≤ 1000) (hi : i ≤ 4611686018427387904) :
    Calls Try.prog 50 #[.int .i64 (k : Int), .int .i64 (i : Int)] w fun e w' => e = .returned (.int .u8 ((mkB k i).toNat : Int)) ∧ w' = w := by
  go_enter Try.func50, Try.ntmps50
  go_wp2
  go_ret
  exact ⟨ret_int (u8_int _).symm, rfl⟩

def stepX (X : Int) : Int := IntKind.u64.wrap (IntKind.u64.wrap (X * 2862933555777941757) + 3037000493)
def xst (X : Int) : Nat → Int
  | 0 => X
  | j + 1 => if j % 8 = 0 then stepX (xst X j) else xst X j
def byt (X : Int) : UInt8 := UInt8.ofNat (X / 1099511627776 % 256).toNat
def x0 (seed : Int) : Int := IntKind.u64.wrap (IntKind.u64.wrap (IntKind.u64.wrap seed * 2862933555777941757) + 3037000493)
/-- What Made makes. -/
def madeL (seed : Int) (n : Nat) : List UInt8 := (List.range n).map fun j => byt (xst (x0 seed) (j + 1))
theorem madeL_len (seed : Int) (n : Nat) : (madeL seed n).length = n := by simp [madeL]
theorem madeL_snoc (seed : Int) (n : Nat) : madeL seed (n + 1) = madeL seed n ++ [byt (xst (x0 seed) (n + 1))] := by simp [madeL, List.range_succ]

theorem set_take (l : List UInt8) (j : Nat) (b : UInt8) (h : j < l.length) : (l.set j b).take (j + 1) = l.take j ++ [b] := by
  rw [List.take_succ_eq_append_getElem (by simpa using h), List.take_set_of_le (Nat.le_refl _)]
  simp

set_option maxRecDepth 100000 in
set_option maxHeartbeats 2000000 in
theorem made_fun (seed : Int) (n : Nat) (w : World) (hn : n ≤ 1000) :
    Calls Try.prog 27 #[.int .i64 seed, .int .i64 (n : Int)] w fun e w' => ∃ g, e = .returned (.slice (some ⟨g, 0, none⟩) n n) ∧ w.heap.size ≤ g ∧ Row w' g (madeL seed n) ∧ Below w.heap.size w w' := by
  obtain ⟨i0, hi, hz0, hz1, hz2⟩ := info_parts info5
  go_enter Try.func27, Try.ntmps27
  go_wp2_with (at_make; refine wpList_make_full _ rfl (.tmp 8) (.tmp 8) 26 rfl w.heap.size 5 i0 (.int .u8 0) 1 Try.underlying26 hi hz0 hz1 .i64 .i64 _ _ n rfl rfl (by omega) (by omega) (by rw [hz2]; omega) (by unfold maxLen; omega) (Nat.le_refl _) ?_; intro w1 hown hgr)
  have hrow := row_made hown
  have hb1 : Below w.heap.size w w1 := (Below.refl _ _).grown hgr (Nat.le_refl _) (fun k hk => by cases hk)
  clear hown hgr
  obtain ⟨g, hge⟩ : ∃ g, g = w.heap.size := ⟨_, rfl⟩
  rw [← hge] at hrow
  rw [← hge]
  replace hge := hid hge
  go_loopw [6, 7] (fun xv i wr => ∃ (j : Nat) (l : List UInt8), j ≤ n ∧ i = .int .i64 j ∧ xv = .int .u64 (xst (x0 seed) j) ∧ l.length = n ∧ l.take j = madeL seed j ∧ Row wr g l ∧ Below w.heap.size w wr) (fun _ i _ => n - (intOf i).toNat)
  case atStart => exact ⟨0, List.replicate n 0, Nat.zero_le _, rfl, rfl, by simp, rfl, hrow, hb1⟩
  case round =>
    obtain ⟨j, l, hj, rfl, rfl, hl, htk, hr, hb⟩ := hrel
    by_cases hlt : j < n
    · obtain ⟨cv, hc⟩ : ∃ cv, wr.cell? ⟨g, j, none⟩ = some (.int .u8 cv) := ⟨_, hr.cell j (by omega)⟩
      have hf := hr.free j
      have hend : ∀ Y : Int, Row (wr.setCell ⟨g, j, none⟩ (.int .u8 (Y / 1099511627776 % 256))) g (l.set j (byt Y)) := fun Y => by
        have := hr.set j (byt Y)
        have e : B (byt Y) = .int .u8 (Y / 1099511627776 % 256) := by
          unfold B byt
          rw [u8_int]
        rwa [e] at this
      have hset : ∀ Y : Int, Y = xst (x0 seed) (j + 1) → (l.set j (byt Y)).take (j + 1) = madeL seed (j + 1) := fun Y hY => by
        rw [set_take l j _ (by omega), htk, madeL_snoc, hY]
      obtain ⟨X, hX⟩ : ∃ X, X = xst (x0 seed) j := ⟨_, rfl⟩
      rw [← hX]
      replace hX := hid hX
      replace hend := hid hend
      replace hset := hid hset
      replace htk := hid htk
      have hl' := hid hl
      clear hl
      by_cases h8 : (j : Int) % 8 = 0
      · have e8 : ((j : Int) % 8 == 0) = true := by rw [h8]; rfl
        have hst : stepX X = xst (x0 seed) (j + 1) := by
          show _ = if j % 8 = 0 then stepX (xst (x0 seed) j) else _
          rw [if_pos (by omega), hX.out]
        unfold stepX at hst
        replace hst := hid hst
        go_wp2
        go_roundw
        case rel => exact ⟨j + 1, _, by omega, by go_num, by rw [hst.out], by simp [hl'.out], hset.out _ hst.out, hend.out _, hb.setCell (p := ⟨g, j, none⟩) (Nat.le_of_eq hge.out.symm) _⟩
        case measure => simp [intOf]; omega
      · have e8 : ((j : Int) % 8 == 0) = false := beq_eq_false_iff_ne.2 h8
        have hst : X = xst (x0 seed) (j + 1) := by
          show _ = if j % 8 = 0 then _ else xst (x0 seed) j
          rw [if_neg (by omega), hX.out]
        replace hst := hid hst
        go_wp2
        go_roundw
        case rel => exact ⟨j + 1, _, by omega, by go_num, by rw [hst.out], by simp [hl'.out], hset.out _ hst.out, hend.out _, hb.setCell (p := ⟨g, j, none⟩) (Nat.le_of_eq hge.out.symm) _⟩
        case measure => simp [intOf]; omega
    · obtain rfl : j = n := by omega
      rw [List.take_of_length_le (by omega)] at htk
      subst htk
      replace hl := hid hl
      go_wp2
      go_ret
      exact ⟨g, rfl, Nat.le_of_eq hge.out.symm, hr, hb⟩
end Go.Proofs.Ytpngnmogjmdmhaa
