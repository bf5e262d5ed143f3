/- The law JournalTells answers true, whatever it is handed. -/
import Derived.Test.YtcbgnodmamcmkaaRef5
namespace Go.Proofs.Ytcbgnodmamcmkaa
open Go.RowKit

/-- What is told of a record's bytes. -/
def recA (num : Int) (kind : UInt8) (body : List UInt8) : List UInt8 × Int := if num < 1 ∨ 4611686018427387904 < num then ([], 2) else if 65536 < body.length then ([], 3) else (entB num.toNat kind body, 0)
def BTold (R : List UInt8 × Int) (w : World) (e : Ending) (w' : World) : Prop := ∃ ad c, e = .returned (.tuple #[.slice ad R.1.length c, .int .i64 R.2]) ∧ At w' ad R.1 ∧ Below w.heap.size w w'

theorem recb_any (num : Int) (kind : UInt8) (a : Option Addr) (len cap : Nat) (body : List UInt8) (w : World) (hl : body.length = len) (hat : At w a body) :
    Calls Try.prog 9 #[.agg #[.int .i64 num, .int .u8 (kind.toNat : Int), .slice a len cap]] w fun e w' => BTold (recA num kind body) w e w' := by
  by_cases h1 : num < 1 ∨ 4611686018427387904 < num
  · rw [show recA num kind body = ([], 2) from if_pos h1]
    exact (recordbytes_arg num kind a len cap w h1).mono fun e w' ⟨he, hb⟩ => ⟨none, 0, he, at_nil _ _, hb⟩
  · by_cases h2 : 65536 < body.length
    · rw [show recA num kind body = ([], 3) by unfold recA; rw [if_neg h1, if_pos h2]]
      exact (recordbytes_long num kind a len cap w (by omega) (by omega) (by omega)).mono fun e w' ⟨he, hb⟩ => ⟨none, 0, he, at_nil _ _, hb⟩
    · rw [show recA num kind body = (entB num.toNat kind body, 0) by unfold recA; rw [if_neg h1, if_neg h2]]
      have h := recordbytes_ok num.toNat kind a len cap body w (by omega) (by omega) hl (by omega) hat
      rw [show ((num.toNat : Nat) : Int) = num by omega] at h
      refine h.mono ?_
      rintro e w' ⟨g, he, _, hr, hb⟩
      refine ⟨some ⟨g, 0, none⟩, 17 + len, ?_, hr.at, hb⟩
      rw [he, entB_len, hl]
theorem recbr_any (num : Int) (kind : UInt8) (a : Option Addr) (len cap : Nat) (body : List UInt8) (w : World) (hl : body.length = len) (hat : At w a body) :
    Calls Try.prog 25 #[.agg #[.int .i64 num, .int .u8 (kind.toNat : Int), .slice a len cap]] w fun e w' => BTold (recA num kind body) w e w' := by
  by_cases h1 : num < 1 ∨ 4611686018427387904 < num
  · rw [show recA num kind body = ([], 2) from if_pos h1]
    exact (refrecord_arg num kind a len cap w h1).mono fun e w' ⟨he, hb⟩ => ⟨none, 0, he, at_nil _ _, hb⟩
  · by_cases h2 : 65536 < body.length
    · rw [show recA num kind body = ([], 3) by unfold recA; rw [if_neg h1, if_pos h2]]
      exact (refrecord_long num kind a len cap w (by omega) (by omega) (by omega)).mono fun e w' ⟨he, hb⟩ => ⟨none, 0, he, at_nil _ _, hb⟩
    · rw [show recA num kind body = (entB num.toNat kind body, 0) by unfold recA; rw [if_neg h1, if_neg h2]]
      have h := refrecord_ok num.toNat kind a len cap body w (by omega) (by omega) hl (by omega) hat
      rw [show ((num.toNat : Nat) : Int) = num by omega] at h
      refine h.mono ?_
      rintro e w' ⟨r, he, ho, hb⟩
      obtain ⟨ad, c, hv, _, ha⟩ := ho.form
      rw [hv] at he
      exact ⟨ad, c, he, ha, hb⟩

theorem poss_len (l : List UInt8) : ∀ (f p : Nat) (nx : Int), (poss l f p nx).length ≤ f
  | 0, p, nx => by simp [poss]
  | f + 1, p, nx => by
    by_cases h : Stands l p nx
    · rw [poss_yes _ _ _ _ h, List.length_cons]; have := poss_len l f (endAt l p) ((numAt l p : Int) + 1); omega
    · rw [poss_no _ _ _ _ h]; simp

/-- What is told of the records. -/
structure RTold (l : List UInt8) (next : Int) (w : World) (e : Ending) (w' : World) (xs : List RX) (v : Option Addr) (c : Nat) : Prop where
  is : e = .returned (.tuple #[.slice v xs.length c, .int .i64 (stopOf l xs : Int)])
  places : xs.map (·.p) = poss l (l.length + 1) 0 next
  rat : RAt w' v (xs.map (RX.rm l))
  bel : Below w.heap.size w w'

theorem stop_same {l : List UInt8} {xs ys : List RX} (h : xs.map (·.p) = ys.map (·.p)) : stopOf l xs = stopOf l ys := by
  have e : ∀ zs : List RX, stopOf l zs = ((zs.map (·.p)).getLast?.map (endAt l)).getD 0 := by
    intro zs
    unfold stopOf
    rw [List.getLast?_map]
    cases zs.getLast? <;> rfl
  rw [e, e, h]
theorem plain_same {l : List UInt8} {xs ys : List RX} (h : xs.map (·.p) = ys.map (·.p)) : (xs.map (RX.rm l)).map Rm.plain = (ys.map (RX.rm l)).map Rm.plain := by
  have e : ∀ zs : List RX, (zs.map (RX.rm l)).map Rm.plain = (zs.map (·.p)).map fun p => ((numAt l p : Int), ((kindAt l p).toNat : Int), bodyAt l p) := by
    intro zs
    rw [List.map_map, List.map_map]
    rfl
  rw [e, e, h]

theorem recs_told (a : Option Addr) (len cap : Nat) (l : List UInt8) (next : Int) (w : World) (hl : l.length = len) (hlen : len ≤ 300000) (hcap : len ≤ cap) (hat : At w a l) :
    Calls Try.prog 19 #[.slice a len cap, .int .i64 next] w fun e w' => ∃ xs v c, RTold l next w e w' xs v c := by
  refine (records_any a len cap l next w hl (by omega) hcap hat).mono ?_
  rintro e w' ⟨xs, v, he, hp, ho, hok, hb⟩
  obtain ⟨ad, c, hv, _⟩ := owns_form ho
  subst hv
  exact ⟨xs, ad, c, he, by rw [hl]; exact hp, rx_rat hok (owns_cat ho), hb⟩
theorem recsr_told (a : Option Addr) (len cap : Nat) (l : List UInt8) (next : Int) (w : World) (hl : l.length = len) (hlen : len ≤ 300000) (hcap : len ≤ cap) (hat : At w a l) :
    Calls Try.prog 26 #[.slice a len cap, .int .i64 next] w fun e w' => ∃ xs v c, RTold l next w e w' xs v c := by
  refine (recordsr_any a len cap l next w hl hlen hcap hat).mono ?_
  rintro e w' ⟨xs, v, he, hp, ho, hok, hb⟩
  obtain ⟨ad, c, hv, _⟩ := owns_form ho
  subst hv
  exact ⟨xs, ad, c, he, by rw [hl]; exact hp, rx_rat hok (owns_cat ho), hb⟩
theorem at_front {w : World} {a : Option Addr} {l m : List UInt8} (h : At w a (l ++ m)) : At w a l := by
  have := h.take l.length
  rwa [List.take_left] at this

set_option maxRecDepth 100000 in
set_option maxHeartbeats 4000000 in
theorem jtells_any (num : Int) (kind : UInt8) (sa : Option Addr) (slen scap : Nat) (body : List UInt8) (a : Option Addr) (len cap : Nat) (l : List UInt8) (next : Int) (w : World) (hs : body.length = slen) (hsl : slen ≤ 140737488355328) (hsat : At w sa body) (hl : l.length = len) (hlen : len ≤ 140737488355328) (hcap : len ≤ cap) (hat : At w a l) :
    Calls Try.prog 4 #[.agg #[.int .i64 num, .int .u8 (kind.toNat : Int), .slice sa slen scap], .slice a len cap, .int .i64 next] w fun e w' => e = .returned (.bool true) ∧ Below w.heap.size w w' := by
  have B0 := below_lit w (.cells #[.int .i64 num, .int .u8 (kind.toNat : Int), .slice sa slen scap] 27)
  have G0 := hid (RBlk.new w (.int .i64 num) (.int .u8 (kind.toNat : Int)) (.slice sa slen scap))
  have S0 := hid (hsat.below B0)
  have A0 := hid (hat.below B0)
  replace hs := hid hs
  replace hl := hid hl
  clear hsat hat
  have hgz : w.heap.size < (w.alloc (.cells #[.int .i64 num, .int .u8 (kind.toNat : Int), .slice sa slen scap] 27)).heap.size := G0.out.lt
  by_cases h3 : 300000 < (len : Int)
  · have d3 : decide (300000 < (len : Int)) = true := decide_eq_true h3
    go_enter Try.func4, Try.ntmps4
    go_wp2_with fail
    refine (awake_any _).mono ?_
    rintro e w2 ⟨rfl, hb2⟩
    have B2 := bnext B0 hb2
    go_wp2
    go_ret
    exact ⟨rfl, B2⟩
  · have d3 : decide (300000 < (len : Int)) = false := decide_eq_false h3
    have y2 := G0.out.cell2
    go_enter Try.func4, Try.ntmps4
    go_wp2_with fail
    generalize w.alloc (.cells #[.int .i64 num, .int .u8 (kind.toNat : Int), .slice sa slen scap] 27) = w0 at *
    refine (lent_any sa scap slen body w0 hs.out hsl S0.out).mono ?_
    rintro e w1 ⟨g1, c1, rfl, hc1, P1, b1⟩
    have G1 := hid (G0.out.below b1)
    have S1 := hid (S0.out.below b1)
    have A1 := hid (A0.out.below b1)
    replace P1 := hid P1
    have B1 := bnext B0 b1
    clear G0 S0 A0 B0 b1 y2
    have kX := lent_any a cap len l w1 hl.out hlen A1.out
    go_wp2_with fail
    refine kX.mono ?_
    rintro e w2 ⟨g2, c2, rfl, hc2, q2, b2⟩
    have G2 := hid (G1.out.below b2)
    have S2 := hid (S1.out.below b2)
    have A2 := hid (A1.out.below b2)
    have P2 := hid (P1.out.below b2)
    have B2 := bnext B1 b2
    clear kX G1 S1 A1 P1 B1 b2
    have Q2 := hid q2
    have y0 := G2.out.cell0
    have y1 := G2.out.cell1
    have y2 := G2.out.cell2
    have kX := recb_any num kind (some ⟨g1, 0, none⟩) slen c1 body w2 hs.out (at_front P2.out)
    go_wp2_with fail
    refine kX.mono ?_
    rintro e w3 ⟨x3, k3, rfl, q3, b3⟩
    clear y0 y1 y2
    have G3 := hid (G2.out.below b3)
    have S3 := hid (S2.out.below b3)
    have A3 := hid (A2.out.below b3)
    have P3 := hid (P2.out.below b3)
    have Q3 := hid (Q2.out.below b3)
    have B3 := bnext B2 b3
    clear kX G2 S2 A2 P2 Q2 B2 b3
    have X3 := hid q3
    have y0 := G3.out.cell0
    have y1 := G3.out.cell1
    have y2 := G3.out.cell2
    have kX := recbr_any num kind sa slen scap body w3 hs.out S3.out
    go_wp2_with fail
    refine kX.mono ?_
    rintro e w4 ⟨x4, k4, rfl, q4, b4⟩
    clear y0 y1 y2
    have G4 := hid (G3.out.below b4)
    have S4 := hid (S3.out.below b4)
    have A4 := hid (A3.out.below b4)
    have P4 := hid (P3.out.below b4)
    have Q4 := hid (Q3.out.below b4)
    have X4 := hid (X3.out.below b4)
    have B4 := bnext B3 b4
    clear kX G3 S3 A3 P3 Q3 X3 B3 b4
    have Y4 := hid q4
    generalize hR : recA num kind body = R at *
    replace hR := hid hR
    generalize hRl : R.1.length = rl at *
    replace hRl := hid hRl
    have kX := recs_told (some ⟨g2, 0, none⟩) len c2 l next w4 hl.out (by omega) (by omega) (at_front Q4.out)
    go_wp2_with fail
    refine kX.mono ?_
    rintro e w5 ⟨xs, x5, k5, T5⟩
    have he5 := T5.is
    subst he5
    have b5 := T5.bel
    have G5 := hid (G4.out.below b5)
    have S5 := hid (S4.out.below b5)
    have A5 := hid (A4.out.below b5)
    have P5 := hid (P4.out.below b5)
    have Q5 := hid (Q4.out.below b5)
    have X5 := hid (X4.out.below b5)
    have Y5 := hid (Y4.out.below b5)
    have B5 := bnext B4 b5
    clear kX G4 S4 A4 P4 Q4 X4 Y4 B4 b5
    have U5 := hid T5.rat
    have kX := recsr_told a len cap l next w5 hl.out (by omega) hcap A5.out
    go_wp2_with fail
    refine kX.mono ?_
    rintro e w6 ⟨ys, x6, k6, T6⟩
    have he6 := T6.is
    subst he6
    have b6 := T6.bel
    have hxy := T5.places.trans T6.places.symm
    have hlen2 : ys.length = xs.length := by have := congrArg List.length hxy; simpa using this.symm
    rw [hlen2, ← stop_same (l := l) hxy]
    have G6 := hid (G5.out.below b6)
    have S6 := hid (S5.out.below b6)
    have A6 := hid (A5.out.below b6)
    have P6 := hid (P5.out.below b6)
    have Q6 := hid (Q5.out.below b6)
    have X6 := hid (X5.out.below b6)
    have Y6 := hid (Y5.out.below b6)
    have U6 := hid (U5.out.below b6)
    have B6 := bnext B5 b6
    clear kX G5 S5 A5 P5 Q5 X5 Y5 U5 B5 b6
    have V6 := hid T6.rat
    have hpl := hid (plain_same (l := l) hxy)
    have hxl : xs.length ≤ 1000000000 := by have h1 := congrArg List.length T5.places; have h2 := poss_len l (l.length + 1) 0 next; rw [List.length_map] at h1; have := hl.out; omega
    have hu1 := hid (show (xs.map (RX.rm l)).length = xs.length from List.length_map _)
    have hu2 := hid (show (ys.map (RX.rm l)).length = xs.length by rw [List.length_map]; exact hlen2)
    clear hxy hlen2 T5 T6
    generalize xs.length = xl at *
    generalize stopOf l xs = st at *
    generalize R.2 = er at *
    have kX := same_any x3 x4 rl rl k3 k4 R.1 R.1 w6 hRl.out hRl.out X6.out Y6.out rfl
    go_wp2_with fail
    refine kX.mono ?_
    rintro e w7 ⟨rfl, e7⟩
    have b7 : Below w6.heap.size w6 w7 := by rw [e7]; exact Below.refl _ _
    clear e7
    have G7 := hid (G6.out.below b7)
    have S7 := hid (S6.out.below b7)
    have A7 := hid (A6.out.below b7)
    have P7 := hid (P6.out.below b7)
    have Q7 := hid (Q6.out.below b7)
    have U7 := hid (U6.out.below b7)
    have V7 := hid (V6.out.below b7)
    have B7 := bnext B6 b7
    clear kX G6 S6 A6 P6 Q6 X6 Y6 U6 V6 B6 b7
    have kX := samer_any x5 x6 xl xl k5 k6 (xs.map (RX.rm l)) (ys.map (RX.rm l)) w7 hu1.out hu2.out hxl U7.out V7.out hpl.out
    go_wp2_with fail
    refine kX.mono ?_
    rintro e w8 ⟨rfl, b8⟩
    have G8 := hid (G7.out.below b8)
    have S8 := hid (S7.out.below b8)
    have A8 := hid (A7.out.below b8)
    have P8 := hid (P7.out.below b8)
    have Q8 := hid (Q7.out.below b8)
    have B8 := bnext B7 b8
    clear kX G7 S7 A7 P7 Q7 U7 V7 B7 b8
    have y2 := G8.out.cell2
    have kX := kept_any g1 c1 scap slen sa body w8 hs.out hsl hc1 P8.out S8.out
    go_wp2_with fail
    refine kX.mono ?_
    rintro e w9 ⟨rfl, e9⟩
    clear y2
    have b9 : Below w8.heap.size w8 w9 := by rw [e9]; exact Below.refl _ _
    clear e9
    have A9 := hid (A8.out.below b9)
    have Q9 := hid (Q8.out.below b9)
    have B9 := bnext B8 b9
    clear kX G8 S8 A8 P8 Q8 B8 b9
    have kX := kept_any g2 c2 cap len a l w9 hl.out hlen hc2 Q9.out A9.out
    go_wp2_with fail
    refine kX.mono ?_
    rintro e w10 ⟨rfl, e10⟩
    have b10 : Below w9.heap.size w9 w10 := by rw [e10]; exact Below.refl _ _
    clear e10
    have B10 := bnext B9 b10
    clear kX A9 Q9 B9 b10
    go_wp2_with fail
    refine (awake_any _).mono ?_
    rintro e w11 ⟨rfl, b11⟩
    have B11 := bnext B10 b11
    go_wp2
    go_ret
    exact ⟨rfl, B11⟩

end Go.Proofs.Ytcbgnodmamcmkaa
