/- What entryBytes and RecordBytes answer. -/
import Derived.Test.YtcbgnodmamcmkaaSums
import Derived.Test.YtcbgnodmamcmkaaOct
import Derived.Test.YtcbgnodmamcmkaaSole
namespace Go.Proofs.Ytcbgnodmamcmkaa
open Go.RowKit

/-- What the sum is of; all of an entry's bytes. -/
def summed (num : Nat) (kind : UInt8) (body : List UInt8) : List UInt8 := be 8 num ++ be 1 kind.toNat ++ body
def entB (num : Nat) (kind : UInt8) (body : List UInt8) : List UInt8 := be 4 (9 + body.length) ++ summed num kind body ++ be 4 (crcOf (summed num kind body))
theorem summed_len (num : Nat) (kind : UInt8) (body : List UInt8) : (summed num kind body).length = 9 + body.length := by simp [summed, be_length]; omega
theorem entB_len (num : Nat) (kind : UInt8) (body : List UInt8) : (entB num kind body).length = 17 + body.length := by simp [entB, be_length, summed_len]; omega

theorem cell_b {w w' : World} {ad : Addr} {v : Value} (hb : Below w.heap.size w w') (h : w.cell? ad = some v) : w'.cell? ad = some v := by
  rw [hb.cell (p := ad) (World.block_lt_of_cell? w _ h)]; exact h

theorem row_own {w : World} {base g : Nat} {l : List UInt8} (h : Row w g l) (hb : base ≤ g) (hl : l.length ≤ 100000000) : Own w base (.slice (some ⟨g, 0, none⟩) l.length l.length) l :=
  ⟨by simp, .inr ⟨g, l.length, _, rfl, hb, h, Nat.le_refl _, by unfold maxLen; omega, by simp, by simp [List.take_of_length_le]⟩⟩

set_option maxRecDepth 100000 in
set_option maxHeartbeats 4000000 in
theorem ent_any (num : Nat) (kind : UInt8) (a : Option Addr) (len cap : Nat) (body : List UInt8) (w : World) (hnum : num ≤ 4611686018427387904) (hl : body.length = len) (hlen : len ≤ 2000000) (hat : At w a body) :
    Calls Try.prog 40 #[.agg #[.int .i64 (num : Int), .int .u8 (kind.toNat : Int), .slice a len cap]] w fun e w' => ∃ g, e = .returned (.slice (some ⟨g, 0, none⟩) (17 + len) (17 + len)) ∧ w.heap.size ≤ g ∧ Row w' g (entB num kind body) ∧ Below w.heap.size w w' := by
  go_enter Try.func40, Try.ntmps40
  go_wp2_with fail
  obtain ⟨ob, hob⟩ : ∃ ob : Obj, ob = .cells #[.int .i64 (num : Int), .int .u8 (kind.toNat : Int), .slice a len cap] 27 := ⟨_, rfl⟩
  have b9 : (w.alloc ob).heap[w.heap.size]? = some (.cells #[.int .i64 (num : Int), .int .u8 (kind.toNat : Int), .slice a len cap] 27 (0, 0)) := by rw [hob]; exact heap_alloc_new w _
  have bb := below_lit w ob
  rw [← hob]
  clear hob
  obtain ⟨gb, hgb⟩ : ∃ gb, gb = w.heap.size := ⟨_, rfl⟩
  rw [← hgb] at b9
  rw [← hgb]
  replace hgb := hid hgb
  generalize w.alloc ob = wb at *
  have c0 := fun W (hb : Below wb.heap.size wb W) => cell_b hb ((cell_of_row wb gb 0 _ _ _ b9).trans (by rfl : _ = some (Value.int .i64 (num : Int))))
  have c1 := fun W (hb : Below wb.heap.size wb W) => cell_b hb ((cell_of_row wb gb 1 _ _ _ b9).trans (by rfl : _ = some (Value.int .u8 (kind.toNat : Int))))
  have c2 := fun W (hb : Below wb.heap.size wb W) => cell_b hb ((cell_of_row wb gb 2 _ _ _ b9).trans (by rfl : _ = some (Value.slice a len cap)))
  have hk := kind.toNat_lt
  have ew : IntKind.u64.wrap (num : Int) = (num : Int) := by rw [IntKind.wrap_u64]; omega
  have d0 := c0 wb (Below.refl _ _)
  have d1 := c1 wb (Below.refl _ _)
  go_region_with (first
    | (go_at_call 77; have hx := hb1; refine (add8_ex (some ⟨g1, 0, none⟩) 8 8 kind.toNat (be 8 num) _ (be_length _ _) (by omega) (by omega) hr1.at).mono ?_; rintro e w2 ⟨g2, rfl, hg2, hr2, hb2⟩; have n0 := c0 w2 (bnext (bnext (drew_below wb) hb1) hb2); have n1 := c1 w2 (bnext (bnext (drew_below wb) hb1) hb2))
    | (go_at_call 78; refine (add64_ex none 0 0 num [] _ rfl (by omega) (by omega) (fun e => absurd rfl e)).mono ?_; rintro e w1 ⟨g1, rfl, hr1, hb1⟩; have m0 := c0 w1 (bnext (drew_below wb) hb1); have m1 := c1 w1 (bnext (drew_below wb) hb1)))
  all_goals
    have hb12 := bnext (bnext (drew_below wb) hb1) hb2
    have hat2 := hat.below (bnext bb hb12)
    have hz1 : wb.heap.size ≤ g2 := Nat.le_trans (bnext (drew_below wb) hb1).size hg2
    have h9 : (be 8 num ++ be 1 kind.toNat).length = 9 := by simp [be_length]
    have o2 : Own w2 wb.heap.size (.slice (some ⟨g2, 0, none⟩) 9 9) (be 8 num ++ be 1 kind.toNat) := by have := row_own hr2 hz1 (by rw [h9]; omega); rwa [h9] at this
    have k2 := c2 w2 hb12
    have hz2 := hb12.size
    have hls : (summed num kind body).length = 9 + len := by rw [summed_len, hl]
    replace h9 := hid h9
    replace ew := hid ew
    replace hl := hid hl
    clear d0 d1 n0 n1 m0 m1 c0 c1
    go_wp2_with (at_builtin; refine wpList_app _ rfl (.tmp 12) (.tmp 14) rfl rfl wb.heap.size _ (be 8 num ++ be 1 kind.toNat) body rfl o2 a len cap rfl hl.out hat2 (by rw [h9.out]; omega) hz2 ?_; intro v3 w3 ho3 hb3; obtain ⟨g3, cc3, hv3, _, hat3⟩ := ho3.form_pos (by simp [be]); rw [show ((be 8 num ++ be 1 kind.toNat) ++ body).length = 9 + len from hls] at hv3; subst hv3)
    have b3 : Below w.heap.size w w3 := (bnext bb hb12).trans (hb3.mono bb.size)
    have hz3 := hb3.size
    have hca := add32_ex none 0 0 (9 + len) [] w3 rfl (by omega) (by omega) (fun e => absurd rfl e)
    have e9 : ((9 + len : Nat) : Int) = 9 + (len : Int) := by omega
    rw [e9] at hca
    replace e9 := hid e9
    refine hca.mono ?_
    rintro e w4 ⟨g4, rfl, hg4, hr4, hb4⟩
    have hat4 := hat3.below hb4
    have b4 := bnext b3 hb4
    have h4 : ([] ++ be 4 (9 + len)).length = 4 := by simp [be_length]
    have o4 : Own w4 w3.heap.size (.slice (some ⟨g4, 0, none⟩) 4 4) ([] ++ be 4 (9 + len)) := by have := row_own hr4 hg4 (by rw [h4]; omega); rwa [h4] at this
    have hz4 := hb4.size
    have hl13 : (([] ++ be 4 (9 + len)) ++ summed num kind body).length = 13 + len := by rw [List.length_append, h4, hls]; omega
    replace h4 := hid h4
    replace hl13 := hid hl13
    clear hca o2 ho3 k2
    go_wp2_with (at_builtin; refine wpList_app _ rfl (.tmp 19) (.tmp 20) rfl rfl w3.heap.size _ ([] ++ be 4 (9 + len)) (summed num kind body) rfl o4 (some ⟨g3, 0, none⟩) (9 + len) cc3 rfl hls hat4 (by rw [h4.out]; omega) hz4 ?_; intro v5 w5 ho5 hb5; obtain ⟨g5, cc5, hv5, _, hat5⟩ := ho5.form_pos (by simp [be]); rw [hl13.out] at hv5; subst hv5)
    have b5 : Below w.heap.size w w5 := b4.trans (hb5.mono b3.size)
    have lt3 := (ho5.lt g5 rfl)
    have hat6 : At w5 (some ⟨g3, 0, none⟩) (summed num kind body) := hat3.kp (S := fun k => w3.heap.size ≤ k) ⟨(hb4.trans hb5).os, (hb4.trans hb5).tape, (hb4.trans hb5).output, (hb4.trans hb5).size, fun k h1 h2 => (hb4.trans hb5).block k (by omega)⟩ (fun ad e hn => by
      cases e
      obtain ⟨b, o, e2, hc⟩ := hat3 (by simp [be])
      cases e2
      have := World.block_lt_of_cell? _ _ (hc 0 (by rw [show ((be 8 num ++ be 1 kind.toNat) ++ body).length = 9 + len from hls]; omega))
      simp only at this hn
      omega)
    refine (crc_any (9 + len) cc3 _ (summed num kind body) _ hls (by omega) hat6).mono ?_
    rintro e w7 ⟨rfl, hb7⟩
    have hat7 := hat5.below hb7
    have b7 := bnext b5 hb7
    have hcl : crcOf (summed num kind body) < 4294967296 := moreOf_lt _ _
    go_wp2_with fail
    refine (add32_ex _ cc5 (13 + len) (crcOf (summed num kind body)) (([] ++ be 4 (9 + len)) ++ summed num kind body) _ hl13.out (by omega) hcl hat7).mono ?_
    rintro e w8 ⟨g8, rfl, hg8, hr8, hb8⟩
    go_wp2
    go_ret
    refine ⟨g8, by rw [show 13 + len + 4 = 17 + len by omega]; rfl, Nat.le_trans b7.size hg8, ?_, bnext b7 hb8⟩
    unfold entB
    rw [hl.out]
    exact hr8

set_option maxRecDepth 100000 in
set_option maxHeartbeats 2000000 in
theorem recordbytes_arg (num : Int) (kind : UInt8) (a : Option Addr) (len cap : Nat) (w : World) (hno : num < 1 ∨ 4611686018427387904 < num) :
    Calls Try.prog 9 #[.agg #[.int .i64 num, .int .u8 (kind.toNat : Int), .slice a len cap]] w fun e w' => e = .returned (.tuple #[.slice none 0 0, .int .i64 2]) ∧ Below w.heap.size w w' := by
  have bb := below_lit w (.cells #[.int .i64 num, .int .u8 (kind.toNat : Int), .slice a len cap] 27)
  by_cases h1 : num < 1
  · have hd1 : decide (num < 1) = true := decide_eq_true h1
    clear hno
    go_enter Try.func9, Try.ntmps9
    go_wp2
    go_ret2
    exact ⟨rfl, bb⟩
  · have hd1 : decide (num < 1) = false := decide_eq_false h1
    have h2 : 4611686018427387904 < num := by omega
    have hd2 : decide (4611686018427387904 < num) = true := decide_eq_true h2
    clear hno
    go_enter Try.func9, Try.ntmps9
    go_wp2
    go_ret2
    exact ⟨rfl, bb⟩

set_option maxRecDepth 100000 in
set_option maxHeartbeats 2000000 in
theorem recordbytes_long (num : Int) (kind : UInt8) (a : Option Addr) (len cap : Nat) (w : World) (h1 : 1 ≤ num) (h2 : num ≤ 4611686018427387904) (h3 : 65536 < len) :
    Calls Try.prog 9 #[.agg #[.int .i64 num, .int .u8 (kind.toNat : Int), .slice a len cap]] w fun e w' => e = .returned (.tuple #[.slice none 0 0, .int .i64 3]) ∧ Below w.heap.size w w' := by
  have bb := below_lit w (.cells #[.int .i64 num, .int .u8 (kind.toNat : Int), .slice a len cap] 27)
  have hd1 : decide (num < 1) = false := decide_eq_false (by omega)
  have hd2 : decide (4611686018427387904 < num) = false := decide_eq_false (by omega)
  go_enter Try.func9, Try.ntmps9
  go_wp2
  go_ret2
  exact ⟨rfl, bb⟩

set_option maxRecDepth 100000 in
set_option maxHeartbeats 2000000 in
theorem recordbytes_ok (N : Nat) (kind : UInt8) (a : Option Addr) (len cap : Nat) (body : List UInt8) (w : World) (h1 : 1 ≤ N) (h2 : N ≤ 4611686018427387904) (hl : body.length = len) (h3 : len ≤ 65536) (hat : At w a body) :
    Calls Try.prog 9 #[.agg #[.int .i64 (N : Int), .int .u8 (kind.toNat : Int), .slice a len cap]] w fun e w' => ∃ g, e = .returned (.tuple #[.slice (some ⟨g, 0, none⟩) (17 + len) (17 + len), .int .i64 0]) ∧ w.heap.size ≤ g ∧ Row w' g (entB N kind body) ∧ Below w.heap.size w w' := by
  have bb := below_lit w (.cells #[.int .i64 (N : Int), .int .u8 (kind.toNat : Int), .slice a len cap] 27)
  have hd1 : decide ((N : Int) < 1) = false := decide_eq_false (by omega)
  have hd2 : decide (4611686018427387904 < (N : Int)) = false := decide_eq_false (by omega)
  have hca := ent_any N kind a len cap body _ (by omega) hl (by omega) (hat.below bb)
  replace hl := hid hl
  go_enter Try.func9, Try.ntmps9
  go_wp2_with fail
  refine hca.mono ?_
  rintro e w1 ⟨g, rfl, hg, hr, hb⟩
  go_wp2
  go_ret2
  exact ⟨g, rfl, Nat.le_trans bb.size hg, hr, bnext bb hb⟩
end Go.Proofs.Ytcbgnodmamcmkaa
