/- The document's bytes of a record. -/
import Derived.Test.YtcbgnodmamcmkaaRef1
import Derived.Test.YtcbgnodmamcmkaaSole
namespace Go.Proofs.Ytcbgnodmamcmkaa
open Go.RowKit

theorem be_kind (k : UInt8) : be 1 k.toNat = [k] := by
  simp [be]

set_option maxRecDepth 100000 in
set_option maxHeartbeats 4000000 in
theorem refbytes_any (num : Nat) (kind : UInt8) (a : Option Addr) (len cap : Nat) (body : List UInt8) (w : World) (hnum : num ≤ 4611686018427387904) (hl : body.length = len) (hlen : len ≤ 2000000) (hat : At w a body) :
    Calls Try.prog 64 #[.agg #[.int .i64 (num : Int), .int .u8 (kind.toNat : Int), .slice a len cap]] w fun e w' => ∃ r, e = .returned r ∧ Own w' w.heap.size r (entB num kind body) ∧ Below w.heap.size w w' := by
  go_enter Try.func64, Try.ntmps64
  go_wp2_with fail
  obtain ⟨ob, hob⟩ : ∃ ob : Obj, ob = .cells #[.int .i64 (num : Int), .int .u8 (kind.toNat : Int), .slice a len cap] 27 := ⟨_, rfl⟩
  have b9 : (w.alloc ob).heap[w.heap.size]? = some (.cells #[.int .i64 (num : Int), .int .u8 (kind.toNat : Int), .slice a len cap] 27 (0, 0)) := by rw [hob]; exact heap_alloc_new w _
  have bb := below_lit w ob
  rw [← hob]
  clear hob
  obtain ⟨gb, hgb⟩ : ∃ gb, gb = w.heap.size := ⟨_, rfl⟩
  rw [← hgb] at b9
  rw [← hgb]
  replace hgb := hid hgb
  generalize w.alloc ob = wb at *
  have c0 := fun W (hb : Below wb.heap.size wb W) => cell_b hb ((cell_of_row wb gb 0 _ _ _ b9).trans (by rfl : _ = some (Value.int .i64 (num : Int))))
  have c1 := fun W (hb : Below wb.heap.size wb W) => cell_b hb ((cell_of_row wb gb 1 _ _ _ b9).trans (by rfl : _ = some (Value.int .u8 (kind.toNat : Int))))
  have c2 := fun W (hb : Below wb.heap.size wb W) => cell_b hb ((cell_of_row wb gb 2 _ _ _ b9).trans (by rfl : _ = some (Value.slice a len cap)))
  have hk := kind.toNat_lt
  have d0 := c0 wb (Below.refl _ _)
  go_wp2_with fail
  refine (refadd_any none 0 0 8 num [] wb rfl (by omega) (by omega) (by omega) (by omega) (at_nil _ _)).mono ?_
  rintro e w1 ⟨v1, rfl, o1, hb1⟩
  rw [List.nil_append] at o1
  have d1 := c1 w1 hb1
  have hz1 := hb1.size
  have k1 : Hid ((be 8 num).length = 8) := be_length _ _
  replace hl := hid hl
  clear d0
  have k2 : Hid ((be 8 num ++ be 1 kind.toNat).length = 9) := by show _ = _; simp [be_length]
  have hls : Hid ((summed num kind body).length = 9 + len) := by show _ = _; rw [summed_len, hl.out]
  go_wp2_with (first
    | (at_builtin; refine wpList_app _ rfl (.tmp 9) (.tmp 12) rfl rfl wb.heap.size _ (be 8 num) [kind] rfl (o1.alloc _) (some ⟨w1.heap.size, 0, none⟩) 1 1 rfl rfl (at_lit w1 [kind] _ (lit_one kind)) (by rw [k1.out]; omega) (by simp; omega) ?_; intro v2 w2 o2 hb2; have b2 := (hb1.alloc hz1 _).trans hb2; have hz2 := b2.size; have d2 := c2 w2 b2; rw [← be_kind] at o2)
    | (at_builtin; refine wpList_app _ rfl (.tmp 14) (.tmp 16) rfl rfl wb.heap.size _ (be 8 num ++ be 1 kind.toNat) body rfl o2 a len cap rfl hl.out (hat.below (bnext bb b2)) (by rw [k2.out]; omega) hz2 ?_; intro v3 w3 o3 hb3; obtain ⟨g3, cc3, hv3, _, hat3⟩ := o3.form_pos (by simp [be]); rw [show ((be 8 num ++ be 1 kind.toNat) ++ body).length = 9 + len from hls.out] at hv3; subst hv3))
  have b3 := b2.trans hb3
  have hz3 := b3.size
  have hca := refadd_any none 0 0 4 (9 + len) [] w3 rfl (by omega) (by omega) (by omega) (by omega) (at_nil _ _)
  have e9 : ((9 + len : Nat) : Int) = 9 + (len : Int) := by omega
  rw [e9] at hca
  replace e9 := hid e9
  refine hca.mono ?_
  rintro e w4 ⟨v4, rfl, o4, hb4⟩
  rw [List.nil_append] at o4
  have hz4 := hb4.size
  have hat4 := hat3.below hb4
  have k4 : Hid ((be 4 (9 + len)).length = 4) := be_length _ _
  have hl13 : Hid ((be 4 (9 + len) ++ summed num kind body).length = 13 + len) := by show _ = _; rw [List.length_append, k4.out, hls.out]; omega
  clear hca d1 d2
  go_wp2_with (at_builtin; refine wpList_app _ rfl (.tmp 22) (.tmp 23) rfl rfl w3.heap.size _ (be 4 (9 + len)) (summed num kind body) rfl o4 (some ⟨g3, 0, none⟩) (9 + len) cc3 rfl hls.out hat4 (by rw [k4.out]; omega) hz4 ?_; intro v5 w5 o5 hb5; obtain ⟨g5, cc5, hv5, _, hat5⟩ := o5.form_pos (by simp [be]); rw [hl13.out] at hv5; subst hv5)
  have b5 : Below wb.heap.size wb w5 := b3.trans ((hb4.trans hb5).mono hz3)
  have hat6 : At w5 (some ⟨g3, 0, none⟩) (summed num kind body) := hat3.kp (S := fun k => w3.heap.size ≤ k) ⟨(hb4.trans hb5).os, (hb4.trans hb5).tape, (hb4.trans hb5).output, (hb4.trans hb5).size, fun k h1 h2 => (hb4.trans hb5).block k (by omega)⟩ (fun ad e hn => by
    cases e
    obtain ⟨b, o, e2, hc⟩ := hat3 (by simp [be])
    cases e2
    have := World.block_lt_of_cell? _ _ (hc 0 (by rw [show ((be 8 num ++ be 1 kind.toNat) ++ body).length = 9 + len from hls.out]; omega))
    simp only at this hn
    omega)
  have hcl : crcOf (summed num kind body) < 4294967296 := moreOf_lt _ _
  refine (refmore_any 0 (9 + len) cc3 _ (summed num kind body) w5 (by omega) hls.out (by omega) hat6).mono ?_
  rintro e w6 ⟨rfl, rfl⟩
  obtain ⟨C, hC⟩ : ∃ C, C = crcOf (summed num kind body) := ⟨_, rfl⟩
  rw [show moreOf 0 (summed num kind body) = C from hC.symm]
  rw [← hC] at hcl
  replace hC := hid hC
  go_wp2_with fail
  refine (refadd_any _ cc5 (13 + len) 4 C (be 4 (9 + len) ++ summed num kind body) w6 hl13.out (by omega) (by omega) (by omega) (by omega) hat5).mono ?_
  rintro e w7 ⟨v7, rfl, o7, hb7⟩
  go_wp2
  go_ret
  refine ⟨_, rfl, ?_, bnext (bnext bb b5) hb7⟩
  unfold entB
  rw [hl.out, ← hC.out]
  exact o7.le (bnext bb b5).size

theorem refrecord_arg (num : Int) (kind : UInt8) (a : Option Addr) (len cap : Nat) (w : World) (hno : num < 1 ∨ 4611686018427387904 < num) :
    Calls Try.prog 25 #[.agg #[.int .i64 num, .int .u8 (kind.toNat : Int), .slice a len cap]] w fun e w' => e = .returned (.tuple #[.slice none 0 0, .int .i64 2]) ∧ Below w.heap.size w w' := by
  have bb := below_lit w (.cells #[.int .i64 num, .int .u8 (kind.toNat : Int), .slice a len cap] 27)
  by_cases h1 : num < 1
  · have hd1 : decide (num < 1) = true := decide_eq_true h1
    clear hno
    go_enter Try.func25, Try.ntmps25
    go_wp2
    go_ret2
    exact ⟨rfl, bb⟩
  · have hd1 : decide (num < 1) = false := decide_eq_false h1
    have h2 : 4611686018427387904 < num := by omega
    have hd2 : decide (4611686018427387904 < num) = true := decide_eq_true h2
    clear hno
    go_enter Try.func25, Try.ntmps25
    go_wp2
    go_ret2
    exact ⟨rfl, bb⟩

theorem refrecord_long (num : Int) (kind : UInt8) (a : Option Addr) (len cap : Nat) (w : World) (h1 : 1 ≤ num) (h2 : num ≤ 4611686018427387904) (h3 : 65536 < len) :
    Calls Try.prog 25 #[.agg #[.int .i64 num, .int .u8 (kind.toNat : Int), .slice a len cap]] w fun e w' => e = .returned (.tuple #[.slice none 0 0, .int .i64 3]) ∧ Below w.heap.size w w' := by
  have bb := below_lit w (.cells #[.int .i64 num, .int .u8 (kind.toNat : Int), .slice a len cap] 27)
  have hd1 : decide (num < 1) = false := decide_eq_false (by omega)
  have hd2 : decide (4611686018427387904 < num) = false := decide_eq_false (by omega)
  go_enter Try.func25, Try.ntmps25
  go_wp2
  go_ret2
  exact ⟨rfl, bb⟩

set_option maxRecDepth 100000 in
set_option maxHeartbeats 2000000 in
theorem refrecord_ok (N : Nat) (kind : UInt8) (a : Option Addr) (len cap : Nat) (body : List UInt8) (w : World) (h1 : 1 ≤ N) (h2 : N ≤ 4611686018427387904) (hl : body.length = len) (h3 : len ≤ 65536) (hat : At w a body) :
    Calls Try.prog 25 #[.agg #[.int .i64 (N : Int), .int .u8 (kind.toNat : Int), .slice a len cap]] w fun e w' => ∃ r, e = .returned (.tuple #[r, .int .i64 0]) ∧ Own w' w.heap.size r (entB N kind body) ∧ Below w.heap.size w w' := by
  have bb := below_lit w (.cells #[.int .i64 (N : Int), .int .u8 (kind.toNat : Int), .slice a len cap] 27)
  have hd1 : decide ((N : Int) < 1) = false := decide_eq_false (by omega)
  have hd2 : decide (4611686018427387904 < (N : Int)) = false := decide_eq_false (by omega)
  have hca := refbytes_any N kind a len cap body _ (by omega) hl (by omega) (hat.below bb)
  replace hl := hid hl
  go_enter Try.func25, Try.ntmps25
  go_wp2_with fail
  refine hca.mono ?_
  rintro e w1 ⟨r, rfl, hr, hb⟩
  go_wp2
  go_ret2
  exact ⟨r, rfl, hr.le bb.size, bnext bb hb⟩
end Go.Proofs.Ytcbgnodmamcmkaa
