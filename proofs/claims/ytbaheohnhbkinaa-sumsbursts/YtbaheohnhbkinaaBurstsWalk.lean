/- SumsBursts's Go text returns true for any bytes, place and change, and turns nothing that was there. -/
import Derived.Test.YtbaheohnhbkinaaNumbersWalk
import Derived.Laws.OwnMore
namespace Go.Proofs.Ytbaheohnhbkinaa
open Go.RowKit

/-- The change's byte number k. -/
def chb (ch k : Nat) : UInt8 := UInt8.ofNat (ch / 2 ^ (8 * k))

/-- The bytes with the first k bytes of the change taken xor them from p on. -/
def chg (l : List UInt8) (p ch : Nat) : Nat → List UInt8
  | 0 => l
  | k + 1 => (chg l p ch k).set (p + k) ((chg l p ch k).getD (p + k) 0 ^^^ chb ch k)

theorem chg_len (l : List UInt8) (p ch k : Nat) : (chg l p ch k).length = l.length := by
  induction k with
  | zero => rfl
  | succ k ih => simp [chg, ih]

theorem chg_take (l : List UInt8) (p ch k : Nat) : (chg l p ch k).take p = l.take p := by
  induction k with
  | zero => rfl
  | succ k ih => simp only [chg]; rw [List.take_set_of_le (by omega), ih]

theorem chg_drop (l : List UInt8) (p ch k m : Nat) (h : p + k ≤ m) : (chg l p ch k).drop m = l.drop m := by
  induction k with
  | zero => rfl
  | succ k ih => simp only [chg]; rw [List.drop_set_of_lt (by omega), ih (by omega)]

theorem three (l : List UInt8) (p k : Nat) : l = l.take p ++ (l.drop p).take k ++ l.drop (p + k) := by
  rw [List.append_assoc, ← List.drop_drop, List.take_append_drop, List.take_append_drop]

/-- The sums are the same just where the bytes are. -/
theorem chg_told (l : List UInt8) (p ch k : Nat) (hk : k ≤ 4) : (crcOf l = crcOf (chg l p ch k)) ↔ l = chg l p ch k := by
  refine ⟨fun h => ?_, fun h => by rw [← h]⟩
  have e1 := three l p k
  have e2 := three (chg l p ch k) p k
  rw [chg_take, chg_drop l p ch k (p + k) (Nat.le_refl _)] at e2
  have h2 : crcOf (l.take p ++ (l.drop p).take k ++ l.drop (p + k)) = crcOf (l.take p ++ ((chg l p ch k).drop p).take k ++ l.drop (p + k)) := by rw [← e1, ← e2]; exact h
  have e3 := crc_burst _ _ _ _ (by simp [chg_len]) (by simp; omega) h2
  rw [e2, ← e3, ← e1]

theorem told_bool (l : List UInt8) (p ch k : Nat) (hk : k ≤ 4) : ((crcOf l : Int) == (crcOf (chg l p ch k) : Int)) = decide (l = chg l p ch k) := by
  rw [Bool.eq_iff_iff, beq_iff_eq, decide_eq_true_iff, ← chg_told l p ch k hk]
  omega

theorem byte_xor (x : UInt8) (ch k : Nat) : bits .xor .u8 (x.toNat : Int) ((ch : Int) / 2 ^ (8 * k) % 256) = ((x ^^^ chb ch k).toNat : Int) := by
  have e : (ch : Int) / 2 ^ (8 * k) % 256 = ((ch / 2 ^ (8 * k) % 256 : Nat) : Int) := by simp
  have h := u8_xor_nat x.toNat (ch / 2 ^ (8 * k) % 256) x.toNat_lt (Nat.mod_lt _ (by omega))
  rw [e, h, UInt8.toNat_xor]
  congr 2

theorem pick_any (x : Int) (n : Nat) (w : World) (hn : 0 < n) (hn2 : n ≤ 4611686018427387904) :
    Calls Try.prog 16 #[.int .i64 x, .int .i64 n] w fun e w' => (∃ p : Nat, p < n ∧ e = .returned (.int .i64 p)) ∧ w' = w := by
  go_enter Try.func16, Try.ntmps16
  go_wp2
  · rename_i hneg
    go_ret
    have h1 := Int.lt_tmod_of_pos x (show (0 : Int) < n by omega)
    refine ⟨⟨(x.tmod n + n).toNat, by omega, ret_int ?_⟩, rfl⟩
    simp [wrap64]
    omega
  · rename_i hpos
    go_ret
    have h1 := Int.tmod_lt_of_pos x (show (0 : Int) < n by omega)
    exact ⟨⟨(x.tmod n).toNat, by omega, ret_int (by simp; omega)⟩, rfl⟩

theorem same_dec (a1 a2 : Option Addr) (n1 n2 c1 c2 : Nat) (l1 l2 : List UInt8) (w : World) (h1 : l1.length = n1) (h2 : l2.length = n2) (at1 : At w a1 l1) (at2 : At w a2 l2) :
    Calls Try.prog 18 #[.slice a1 n1 c1, .slice a2 n2 c2] w fun e w' => e = .returned (.bool (decide (l1 = l2))) ∧ w' = w := by
  have k1 := conv_run w a1 l1 n1 c1 h1 at1
  have k2 := conv_run w a2 l2 n2 c2 h2 at2
  go_enter Try.func18, Try.ntmps18
  go_wp2
  go_ret
  exact ⟨ret_bool (by rw [Bool.eq_iff_iff]; simp), rfl⟩

theorem Own.set {w : World} {base g n cap : Nat} {l : List UInt8} (h : Own w base (.slice (some ⟨g, 0, none⟩) n cap) l) (hl : l.length = n) (i : Nat) (x : UInt8) :
    Own (w.setCell ⟨g, i, none⟩ (B x)) base (.slice (some ⟨g, 0, none⟩) n cap) (l.set i x) := by
  subst hl
  unfold Own at *
  have := (World.ownsRow.stored h i (B x)).1
  rw [List.length_set, List.map_set]
  exact this

theorem Own.free {w : World} {base g n cap : Nat} {l : List UInt8} (h : Own w base (.slice (some ⟨g, 0, none⟩) n cap) l) (hl : l.length = n) (i : Nat) : w.frozen? ⟨g, i, none⟩ = false := by
  subst hl; exact World.ownsRow.frozenAt h i

theorem Own.cellAt {w : World} {base g n cap : Nat} {l : List UInt8} (h : Own w base (.slice (some ⟨g, 0, none⟩) n cap) l) (hl : l.length = n) (i : Nat) (hi : i < n) : w.cell? ⟨g, i, none⟩ = some (.int .u8 ((l.getD i 0).toNat : Int)) := by
  subst hl
  have := World.ownsRow.cellAt h i (by omega)
  rw [this]
  simp [hi, B]

theorem Own.at {w : World} {base g n cap : Nat} {l : List UInt8} (h : Own w base (.slice (some ⟨g, 0, none⟩) n cap) l) : At w (some ⟨g, 0, none⟩) l := by
  obtain ⟨a, c, he, _, hat⟩ := h.form
  simp only [Value.slice.injEq] at he
  rw [he.1]
  exact hat

theorem Own.base_le {w : World} {base g n cap : Nat} {l : List UInt8} (h : Own w base (.slice (some ⟨g, 0, none⟩) n cap) l) : base ≤ g := by
  rcases h.2 with ⟨h1, _⟩ | ⟨g', cap', cur, hv, hb, _⟩
  · cases h1
  · simp at hv
    obtain ⟨rfl, _⟩ := hv
    exact hb

set_option maxRecDepth 100000 in
set_option maxHeartbeats 1000000 in
theorem bursts_any (a : Option Addr) (len cap : Nat) (l : List UInt8) (x : Int) (ch : Nat) (w : World) (hl : l.length = len) (hlen : len ≤ 140737488351232) (hat : At w a l) :
    Calls Try.prog 5 #[.slice a len cap, .int .i64 x, .int .u32 (ch : Int)] w fun e w' => e = .returned (.bool true) ∧ Below w.heap.size w w' := by
  by_cases hbig : 20000 < len
  · go_enter Try.func5, Try.ntmps5
    go_wp2_with (go_at_call 12; refine (awake_any _).mono ?_; rintro e w1 ⟨rfl, hb1⟩)
    go_ret
    exact ⟨rfl, hb1⟩
  · have hsmall : len ≤ 20000 := by omega
    clear hbig
    by_cases h0 : len = 0
    · go_enter Try.func5, Try.ntmps5
      go_wp2_with (go_at_call 12; refine (awake_any _).mono ?_; rintro e w1 ⟨rfl, hb1⟩)
      go_ret
      exact ⟨rfl, hb1⟩
    · have hpos : 0 < len := by omega
      clear h0
      have hd1 : decide ((20000 : Int) < len) = false := decide_eq_false (by omega)
      have hd2 : ((len : Int) == 0) = false := beq_eq_false_iff_ne.2 (by omega)
      go_enter Try.func5, Try.ntmps5
      go_wp2_with fail
      refine (pick_any x len _ hpos (by omega)).mono ?_
      rintro e w1 ⟨⟨p, hp, rfl⟩, rfl⟩
      go_wp2_with fail
      refine (copy_any a cap len l _ hl (by omega) hat).mono ?_
      rintro e w2 ⟨v2, rfl, ho2, hb2⟩
      obtain ⟨g, c, rfl, hc, _⟩ := ho2.form_pos (by intro e; subst e; simp at hl; omega)
      rw [hl] at hc ho2
      rw [hl]
      go_wp2
      go_loopw [8] (fun i wr => ∃ k : Nat, k ≤ 4 ∧ i = .int .i64 k ∧ Own wr w1.heap.size (.slice (some ⟨g, 0, none⟩) len c) (chg l p ch k) ∧ Below w1.heap.size w1 wr) (fun i _ => 4 - (intOf i).toNat)
      case atStart => exact ⟨0, by omega, rfl, ho2, hb2⟩
      case round =>
        obtain ⟨k, hk, rfl, ho, hb⟩ := hrel
        have hlc : (chg l p ch k).length = len := by rw [chg_len, hl]
        by_cases hin : k < 4 ∧ p + k < len
        · obtain ⟨hk4, hpk⟩ := hin
          have hcx := ho.cellAt hlc (p + k) hpk
          have hfx := ho.free hlc (p + k)
          replace ho := hid ho
          go_wp2
          go_roundw
          case rel =>
            refine ⟨k + 1, by omega, by go_num, ?_, ?_⟩
            · rw [byte_xor]
              have e : (chg l p ch k).getD (p + k) 0 = (chg l p ch k)[p + k]'(by omega) := by simp [List.getD, hlc, hpk]
              show Own _ _ _ ((chg l p ch k).set (p + k) ((chg l p ch k).getD (p + k) 0 ^^^ chb ch k))
              rw [e]
              exact ho.out.set hlc (p + k) _
            · exact hb.setCell (show w1.heap.size ≤ (⟨g, p + k, none⟩ : Addr).block from ho.out.base_le) _
          case measure => simp [intOf]; omega
        · have hout : k = 4 ∨ (k < 4 ∧ len ≤ p + k) := by omega
          clear hin
          have hte := told_bool l p ch k hk
          generalize chg l p ch k = m at *
          have ha := hat.below hb
          clear ho2 hc hb2
          have hm := ho.at
          clear ho
          rcases hout with rfl | ⟨hk4, hpk⟩
          · go_wp2_with fail
            refine (crc_any len cap a l _ hl (by omega) ha).mono ?_
            rintro e w3 ⟨rfl, hb3⟩
            replace ha := ha.below hb3
            replace hm := hm.below hb3
            replace hb := bnext hb hb3
            go_wp2_with fail
            refine (crc_any len c _ m _ hlc (by omega) hm).mono ?_
            rintro e w4 ⟨rfl, hb4⟩
            replace ha := ha.below hb4
            replace hm := hm.below hb4
            replace hb := bnext hb hb4
            go_wp2_with fail
            refine (same_dec a _ len len cap c l m _ hl hlc ha hm).mono ?_
            rintro e w5 ⟨rfl, rfl⟩
            go_wp2_with (go_at_call 12; refine (awake_any _).mono ?_; rintro e w6 ⟨rfl, hb6⟩)
            go_ret
            exact ⟨rfl, bnext hb hb6⟩
          · go_wp2_with fail
            refine (crc_any len cap a l _ hl (by omega) ha).mono ?_
            rintro e w3 ⟨rfl, hb3⟩
            replace ha := ha.below hb3
            replace hm := hm.below hb3
            replace hb := bnext hb hb3
            go_wp2_with fail
            refine (crc_any len c _ m _ hlc (by omega) hm).mono ?_
            rintro e w4 ⟨rfl, hb4⟩
            replace ha := ha.below hb4
            replace hm := hm.below hb4
            replace hb := bnext hb hb4
            go_wp2_with fail
            refine (same_dec a _ len len cap c l m _ hl hlc ha hm).mono ?_
            rintro e w5 ⟨rfl, rfl⟩
            go_wp2_with (go_at_call 12; refine (awake_any _).mono ?_; rintro e w6 ⟨rfl, hb6⟩)
            go_ret
            exact ⟨rfl, bnext hb hb6⟩
end Go.Proofs.Ytbaheohnhbkinaa
