/- JobOnce: its walk. -/
import Derived.Test.YtlhmlfinflodaaaOnceP
namespace Go.Proofs.Ytlhmlfinflodaaa
open Go.RowKit
set_option linter.unusedVariables false
set_option linter.unusedSimpArgs false

def pv19 (g b10 b11 : Nat) (NX : Job) (t : Tn) (sn sl : Int) : List Value := [.pointer (some ⟨b11, 15, none⟩), .int .u32 t.on, .pointer (some ⟨b10, 0, none⟩), .int .u32 t.on, .bool false, .bool false, .pointer (some ⟨b11, 15, none⟩), .int .u32 t.on, .int .i64 sn, .pointer (some ⟨g, 4, none⟩), .int .i64 sn, .bool false, .bool false, .bool false, .pointer (some ⟨b11, 13, none⟩), .int .i64 t.now, .pointer (some ⟨b10, 3, none⟩), .int .i64 t.now, .bool false, .bool false, .bool false, .agg (jc NX).toArray, .int .i64 (wrap64 (t.now + sl)), .pointer (some ⟨b10, 3, none⟩), .int .i64 t.now, .pointer (some ⟨g, 6, none⟩), .int .i64 sl, .int .i64 (wrap64 (t.now + sl)), .bool false, .bool false]

set_option maxRecDepth 100000 in
set_option maxHeartbeats 8000000 in
theorem once_any (id : Int) (s : Spc) (D : List Dp) (a : Option Addr) (k c : Nat) (L : List Tn) (w : World) (hD : D.length = s.dn) (hl : s.dn * 16 ≤ 140737488355328) (hat : DAt w s.da D) (hL : L.length = k) (hk : k ≤ 4611686018427387904) (hLat : TnAt w a L) (hon : ∀ t ∈ L, 0 ≤ t.on ∧ t.on < 4294967296) :
    Calls Try.prog 4 #[.int .i64 id, .agg (sc s).toArray, .slice a k c] w fun e w' => e = .returned (.bool true) ∧ Below w.heap.size w w' := by
  have al0 := below_lit w (.cells (sc s).toArray 24)
  have rowS : (w.alloc (.cells (sc s).toArray 24)).heap[w.heap.size]? = some (.cells (sc s).toArray 24 (0, 0)) := heap_alloc_new w _
  have kM := make_any id s 0 D (w.alloc (.cells (sc s).toArray 24)) hD hl (hat.below al0)
  have hz0 := size_lit w (.cells (sc s).toArray 24)
  replace rowS := hid rowS
  replace hat := hid hat
  replace hD := hid hD
  replace hL := hid hL
  replace hLat := hid hLat
  replace hon := hid hon
  go_enter Try.func4, Try.ntmps4
  go_wp2_with (refine wpList_load_row rfl 24 (.tmp 4) rfl w.heap.size rfl 24 (sc s).toArray (0, 0) _ rowS.out Try.underlying24 rfl (by kernel_rfl) ?_)
  refine kM.mono ?_
  rintro e w1 ⟨x, y, rfl, hy, hown, hb1⟩
  obtain ⟨J0, hJ0⟩ : ∃ J, J = (mkJ id s 0).re x y := ⟨_, rfl⟩
  rw [← hJ0]
  have hs1 := hb1.size
  have al := below_lit w1 (.cells (jc J0).toArray 29)
  obtain ⟨W1, hW1⟩ : ∃ W1, W1 = w1.alloc (.cells (jc J0).toArray 29) := ⟨_, rfl⟩
  have rowb7 : W1.heap[w1.heap.size]? = some (.cells (jc J0).toArray 29 (0, 0)) := by rw [hW1]; exact heap_alloc_new w1 _
  rw [← hW1] at al
  have hz1 : W1.heap.size = w1.heap.size + 1 := by rw [hW1, size_lit]
  have rowS1 : W1.heap[w.heap.size]? = some (.cells (sc s).toArray 24 (0, 0)) := by
    rw [al.block _ (by omega), hb1.block _ (by omega)]; exact rowS.out
  have bW1 : Below w.heap.size w W1 := bnext al0 (bnext hb1 al)
  have hoff : ∀ p, J0.s.da = some p → p.block ≠ w1.heap.size := fun p hp => by
    rw [hJ0] at hp
    have hp' : x = some p := hp
    rw [hp'] at hown
    have := (owns_blk hown).2
    omega
  have hdat : DAt W1 J0.s.da D := by rw [hJ0]; exact (hown.dat).below al
  have kR := fun w => right_any J0 w (by rw [hJ0]; exact (by decide : (0 : Int) ≤ 0)) (by rw [hJ0]; exact (by decide : (0 : Int) < 4294967296))
  have hOI0 : rightB J0 = true → OI w W1 w.heap.size w1.heap.size id s D 0 J0 := fun hr => ⟨rowb7, rowS1, bW1, by rw [hJ0]; rfl, by rw [hJ0]; rfl, ⟨x, y, by rw [hJ0]; rfl⟩, hr, hdat, by rw [hJ0]; exact (by decide : (0 : Int) ≤ 0), by rw [hJ0]; exact (by decide : (0 : Int) < 4294967296), hoff, by omega, fun _ => rfl⟩
  have hgb0 : w.heap.size < w1.heap.size := by omega
  clear hown hoff hdat kM rowS1 al al0 hz0
  replace hJ0 := hid hJ0
  replace rowb7 := hid rowb7
  replace hW1 := hid hW1
  replace hOI0 := hid hOI0
  go_wp2_with (first
    | (refine wpList_store_row rfl 29 (.tmp 7) (.tmp 15) rfl w1.heap.size (jc J0).toArray rfl rfl 29 _ (heap_alloc_new w1 _) (by kernel_rfl) rfl (jc_all _) ?_; rw [alloc_setRow]; rw [← hW1.out])
    | (refine wpList_load_row rfl 29 (.tmp 7) rfl w1.heap.size rfl 29 (jc J0).toArray (0, 0) _ rowb7.out Try.underlying29 rfl (by kernel_rfl) ?_))
  refine (kR _).mono ?_
  rintro e w2 ⟨rfl, hb2⟩
  cases hr0 : rightB J0 with
  | false =>
    replace hr0 := hid hr0
    go_wp2_with fail
    refine (awake_any _).mono ?_
    rintro e w3 ⟨rfl, hb3⟩
    go_wp2
    go_ret
    exact ⟨rfl, bnext (bnext bW1 hb2) hb3⟩
  | true =>
    have hO := (hOI0.out hr0).step hb2
    clear hOI0 kR rowb7
    replace hr0 := hid hr0
    have hgb : w.heap.size ≤ w1.heap.size := by omega
    have hgb2 : w.heap.size ≠ w1.heap.size := by omega
    have hbw : Below w.heap.size w w2 := hO.bel
    clear bW1 hb2 hb1 hz1 hs1 hgb0
    replace hO := hid hO
    have hW1c := hW1
    clear hW1 hW1c
    generalize hb7e : w1.heap.size = b7 at *
    replace hb7e := hid hb7e
    obtain ⟨g, hge⟩ : ∃ g, g = w.heap.size := ⟨_, rfl⟩
    rw [← hge]
    rw [← hge] at hO hgb hgb2
    replace hge := hid hge
    go_wp2_with fail
    go_loopw [8, 9] (fun v i wr => ∃ (j n : Nat) (J : Job), j ≤ k ∧ n ≤ 1 ∧ i = .int .i64 (j : Int) ∧ v = .int .i64 (n : Int) ∧ Hid (OI w wr g b7 id s D n J)) (fun _ i _ => k - (intOf i).toNat)
    case atStart => exact ⟨0, 0, J0, Nat.zero_le _, by omega, rfl, rfl, hO⟩
    case round =>
      obtain ⟨j, n, J, hj, hn, rfl, rfl, hI⟩ := hrel
      have hdone : ∀ w5, Below wr.heap.size wr w5 → Below w.heap.size w w5 := fun w5 h => bnext hI.out.bel h
      replace hdone := hid hdone
      have hn1 : decide ((n : Int) ≤ 1) = true := by simp; omega
      by_cases hlt : j < k
      · by_cases h60 : j < 60
        · have hjL : j < L.length := by rw [hL.out]; exact hlt
          obtain ⟨tb, to_, e⟩ := flat_place tc 4 tc_len (by omega) hLat.out (by omega)
          subst e
          have hrng := hid (tn_range (CAt.below hLat.out hI.out.bel) hjL)
          have htn := hon.out (tnAt L j) (by rw [← tnAt_eq hjL]; exact List.getElem_mem _)
          generalize tnAt L j = t at *
          obtain ⟨hto, hto2⟩ := htn
          obtain ⟨W3, hW3⟩ : ∃ W, W = wr.alloc (.cells (tc t).toArray 31) := ⟨_, rfl⟩
          have al3 := below_lit wr (.cells (tc t).toArray 31)
          have rowt : W3.heap[wr.heap.size]? = some (.cells (tc t).toArray 31 (0, 0)) := by rw [hW3]; exact heap_alloc_new wr _
          rw [← hW3] at al3
          have hz3 : W3.heap.size = wr.heap.size + 1 := by rw [hW3, size_lit]
          have hI3 := hI.out.step al3
          have t0 := row_cell rowt 0 (.int .u32 t.on) rfl
          have t1 := row_cell rowt 1 (.int .u8 t.st) rfl
          have t2 := row_cell rowt 2 (.int .i64 t.x) rfl
          have t3 := row_cell rowt 3 (.int .i64 t.now) rfl
          have rowJ := hid hI3.row
          obtain ⟨sx, sy, hJs⟩ := hI3.sp
          have hdn : J.s.dn = s.dn := by rw [hJs]; rfl
          have kF := finish_any J t.st t.x t.now D W3 hI3.lo hI3.hi (by rw [hdn]; exact hD.out) (by rw [hdn]; exact hl) hI3.dat
          replace rowt := hid rowt
          replace hW3 := hid hW3
          replace hI := hid hI
          replace hJs := hid hJs
          replace hdn := hid hdn
          replace hI3 := hid hI3
          go_wp2_with (first
            | (refine wpList_load_mid rfl 31 (.tmp 32) rfl tb (to_ + j * 4) rfl (tc t) _ hrng.out Try.underlying31 rfl (by kernel_rfl) ?_)
            | (refine wpList_store_row rfl 31 (.tmp 10) (.tmp 33) rfl wr.heap.size (tc t).toArray rfl rfl 31 _ (heap_alloc_new wr _) (by kernel_rfl) rfl (tc_all _) ?_; rw [alloc_setRow]; rw [← hW3.out])
            | (refine wpList_load_row rfl 29 (.tmp 7) rfl b7 rfl 29 (jc J).toArray (0, 0) _ rowJ.out Try.underlying29 rfl (by kernel_rfl) ?_))
          refine kF.mono ?_
          rintro e w4 ⟨hBT, hb4⟩
          have hs4 := hb4.size
          clear kF
          generalize hb10e : wr.heap.size = b10 at *
          replace hb10e := hid hb10e
          by_cases hst : t.st = 0
          · have hF : finE J t.st t.now ≠ 0 := by
              intro h
              have := (over_iff _).1 (fin_zero h).2.2.2.1
              omega
            obtain rfl := hBT.no hF
            clear hBT
            generalize finE J t.st t.now = E1 at *
            rw [hst] at t1
            have al5 := below_lit w4 (.cells (jc job0).toArray 29)
            obtain ⟨W5, hW5⟩ : ∃ W, W = w4.alloc (.cells (jc job0).toArray 29) := ⟨_, rfl⟩
            have row11 : W5.heap[w4.heap.size]? = some (.cells (jc job0).toArray 29 (0, 0)) := by rw [hW5]; exact heap_alloc_new w4 _
            rw [← hW5] at al5
            have hz5 : W5.heap.size = w4.heap.size + 1 := by rw [hW5, size_lit]
            have B5 := bnext hb4 al5
            have hI5 := hI3.out.step B5
            replace t0 := stay B5 t0
            replace t1 := stay B5 t1
            replace t3 := stay B5 t3
            have rowJ5 := hid hI5.row
            have kB := begin_any J t.on t.now D W5 hI5.lo hI5.hi hto hto2 (by rw [hdn.out]; exact hD.out) (by rw [hdn.out]; exact hl) hI5.dat
            replace hst := hid hst
            replace hW5 := hid hW5
            replace hI5 := hid hI5
            replace row11 := hid row11
            go_wp2_with (first
              | (refine wpList_store_row rfl 29 (.tmp 11) (.tmp 43) rfl w4.heap.size (jc job0).toArray rfl rfl 29 _ (heap_alloc_new w4 _) (by kernel_rfl) rfl (jc_all _) ?_; rw [alloc_setRow]; rw [← hW5.out])
              | (refine wpList_load_row rfl 29 (.tmp 7) rfl b7 rfl 29 (jc J).toArray (0, 0) _ rowJ5.out Try.underlying29 rfl (by kernel_rfl) ?_))
            refine kB.mono ?_
            rintro e w6 ⟨hBT, hb6⟩
            have hs6 := hb6.size
            clear kB
            have row11b : w6.heap[w4.heap.size]? = some (.cells (jc job0).toArray 29 (0, 0)) := by rw [hb6.block _ (by omega)]; exact row11.out
            generalize hb11e : w4.heap.size = b11 at *
            replace hb11e := hid hb11e
            by_cases hE : beginE J t.on t.now = 0
            · obtain ⟨q1, q2, q3, q4, q5⟩ := begin_zero hE
              have hn0 : n = 0 := hI3.out.c2 q5
              subst hn0
              have hbr := fun x y => begun_right hE x y
              rw [hE] at hBT
              obtain ⟨X1, Z1, rfl, hy1, hownX⟩ := hBT.ok
              obtain ⟨NX, hNX⟩ : ∃ J', J' = (begun J t.on t.now).re X1 Z1 := ⟨_, rfl⟩
              rw [← hNX]
              have hNid : NX.id = id := by rw [hNX]; exact hI3.out.idd
              have hNsub : NX.sub = 0 := by rw [hNX]; exact hI3.out.sub
              have hNXs : NX.s = s.re X1 Z1 := by
                rw [hNX]
                show J.s.re X1 Z1 = _
                rw [hJs.out]; rfl
              have hNrt : rightB NX = true := by rw [hNX]; exact hbr _ _
              have hNon : NX.on = t.on := by rw [hNX]; rfl
              have hNst : NX.st = 2 := by rw [hNX]; rfl
              have hNbeg : NX.beg = t.now := by rw [hNX]; rfl
              have hdx : DOwn w6 (W5.heap.size + 1 + 1) (.slice X1 s.dn Z1) D := by
                have := hownX
                rw [show (begun J t.on t.now).s.dn = s.dn from hdn.out] at this
                exact this
              have r11 := setRow_heap w6 b11 _ (jc NX).toArray _ _ row11b
              have hbe : Below W3.heap.size W3 (w6.setRow b11 (jc NX).toArray) := below_setRow (bnext B5 hb6) (by omega) _
              have hKp : Kp (fun i => i = b11) w6 (w6.setRow b11 (jc NX).toArray) := kp_setRow (S := fun i => i = b11) (Kp.refl _ _) rfl _
              have hownY : DOwn (w6.setRow b11 (jc NX).toArray) (W5.heap.size + 1 + 1) (.slice X1 s.dn Z1) D := owns_kp hdx hKp (fun i hi h => by have := (World.ownsRow.lt hdx i hi).1; omega)
              have hIe := hid (hI3.out.step hbe)
              clear hdx hownX
              have hownX := hid hownY
              clear hownY
              replace t0 : (w6.setRow b11 (jc NX).toArray).cell? ⟨b10, 0, none⟩ = some (.int .u32 t.on) := (World.cell?_of_block (w := W5) (a := ⟨b10, 0, none⟩) (by rw [setRow_other _ _ _ (show b10 ≠ b11 by omega)]; exact hb6.block _ (show b10 < W5.heap.size by omega))).trans t0
              replace t1 : (w6.setRow b11 (jc NX).toArray).cell? ⟨b10, 1, none⟩ = some (.int .u8 0) := (World.cell?_of_block (w := W5) (a := ⟨b10, 1, none⟩) (by rw [setRow_other _ _ _ (show b10 ≠ b11 by omega)]; exact hb6.block _ (show b10 < W5.heap.size by omega))).trans t1
              replace t3 : (w6.setRow b11 (jc NX).toArray).cell? ⟨b10, 3, none⟩ = some (.int .i64 t.now) := (World.cell?_of_block (w := W5) (a := ⟨b10, 3, none⟩) (by rw [setRow_other _ _ _ (show b10 ≠ b11 by omega)]; exact hb6.block _ (show b10 < W5.heap.size by omega))).trans t3
              have n0 := row_cell r11 0 (.int .i64 id) (by rw [← hNid]; rfl)
              have n11 := row_cell r11 11 (.int .u8 NX.st) rfl
              have n12 := row_cell r11 12 (.int .i64 0) (by rw [← hNsub]; rfl)
              have n13 := row_cell r11 13 (.int .i64 NX.beg) rfl
              have n14 := row_cell r11 14 (.int .i64 NX.fin) rfl
              have n15 := row_cell r11 15 (.int .u32 NX.on) rfl
              rw [hNst] at n11
              rw [hNbeg] at n13
              rw [hNon] at n15
              have rowJe := hIe.out.row
              have j11 := row_cell rowJe 11 (.int .u8 1) (by rw [← q5]; rfl)
              have lt10 := World.block_lt_of_cell? _ _ t1
              have lt11 := World.block_lt_of_cell? _ _ n11
              have lt7 := World.block_lt_of_cell? _ _ j11
              have kO := fun w => over_any 1 w
              rw [show overB 1 = false from rfl] at kO
              have kRX := fun w => right_any NX w (by rw [hNon]; exact hto) (by rw [hNon]; exact hto2)
              rw [hNrt] at kRX
              have kE := fun w => end_any NX w
              rw [show endP NX = wrap64 (t.now + s.lim) by unfold endP; rw [if_pos hNst, hNbeg, hNXs]; rfl] at kE
              have kC := fun w => Nd.count_any t.on.toNat (by omega) w
              rw [show ((t.on.toNat : Nat) : Int) = t.on by omega, q2, show J.s.nodes = s.nodes by rw [hJs.out]; rfl] at kC
              replace rowJe := hid rowJe
              replace row11b := hid row11b
              replace r11 := hid r11
              replace hE := hid hE
              replace hNX := hid hNX
              replace hNid := hid hNid
              replace hNsub := hid hNsub
              replace hNXs := hid hNXs
              replace hNrt := hid hNrt
              replace hNon := hid hNon
              replace hNst := hid hNst
              replace hNbeg := hid hNbeg
              replace q2 := hid q2
              replace q5 := hid q5
              clear hbr hBT hKp hbe hI5 rowJ5 row11
              go_wp2_with (refine wpList_store_row rfl 29 (.tmp 11) (.tmp 55) rfl b11 (jc NX).toArray rfl rfl 29 _ row11b.out (by kernel_rfl) rfl (jc_all _) ?_)
              refine (kO _).mono ?_
              rintro e wo ⟨rfl, rfl⟩
              go_wp2_with (refine gload_row 3 false 66 rfl rfl rfl 29 (.tmp 11) rfl b11 rfl 29 (jc NX).toArray (0, 0) _ r11.out Try.underlying29 (by kernel_rfl) ?_)
              refine (kRX _).mono ?_
              rintro e w8 ⟨rfl, hb8⟩
              replace t0 := stay hb8 t0
              replace t1 := stay hb8 t1
              replace t3 := stay hb8 t3
              replace n0 := stay hb8 n0
              replace n11 := stay hb8 n11
              replace n12 := stay hb8 n12
              replace n13 := stay hb8 n13
              replace n14 := stay hb8 n14
              replace n15 := stay hb8 n15
              replace lt10 := World.block_lt_of_cell? _ _ t1
              replace lt11 := World.block_lt_of_cell? _ _ n0
              have Ie8 := hIe.out.step hb8
              have r8 : w8.heap[b11]? = some (.cells (jc NX).toArray 29 (0, 0)) := by rw [hb8.block _ (row_lt r11.out)]; exact r11.out
              have hm8 := hid (job_range r8)
              have rs8 := hid Ie8.rs
              have hown8 := hid (hownX.out.below hb8)
              have kSp := samespec s D X1 Z1 w8 hD.out (by omega) (by have := hown8.out.dat; exact this) (hat.out.below Ie8.bel)
              replace Ie8 := hid Ie8
              replace r8 := hid r8
              go_wp2_with (first
                | (refine gload_mid 19 false 82 rfl rfl rfl 24 (.tmp 83) rfl b11 3 rfl (sc NX.s) _ hm8.out Try.underlying24 rfl (by kernel_rfl) ?_; rw [hNXs.out])
                | (refine gload_row 19 false 82 rfl rfl rfl 24 (.tmp 4) rfl g rfl 24 (sc s).toArray (0, 0) _ rs8.out Try.underlying24 (by kernel_rfl) ?_))
              refine kSp.mono ?_
              rintro e w9 ⟨rfl, hb9⟩
              replace t0 := stay hb9 t0
              replace t1 := stay hb9 t1
              replace t3 := stay hb9 t3
              replace n11 := stay hb9 n11
              replace n13 := stay hb9 n13
              replace n14 := stay hb9 n14
              replace n15 := stay hb9 n15
              replace lt10 := World.block_lt_of_cell? _ _ t1
              replace lt11 := World.block_lt_of_cell? _ _ n11
              have Ie9 := Ie8.out.step hb9
              have rowb11 : w9.heap[b11]? = some (.cells (jc NX).toArray 29 (0, 0)) := by rw [hb9.block _ (row_lt r8.out)]; exact r8.out
              have hown9 := hid (hown8.out.below hb9)
              clear kSp hm8 rs8 r8 r11 hown8 hownX Ie8 hIe n0 n12
              replace rowb11 := hid rowb11
              have rowb7 := hid Ie9.row
              have s4 := row_cell Ie9.rs 4 (.int .i64 s.nodes) rfl
              have s6 := row_cell Ie9.rs 6 (.int .i64 s.lim) rfl
              have lb11 := row_lt rowb11.out
              have hI9 := hid Ie9
              clear Ie9
              go_wp2_with fail
              refine wp_region_drawn (Rel := fun w w' => Below w.heap.size w w') (Pr := PrV (pv19 g b10 b11 NX t s.nodes s.lim) [] (fun _ _ _ => True)) (by kernel_rfl) (by kernel_rfl) (drew_below _) bel_tr (PrV.mono (fun _ _ _ _ _ _ => trivial)) ?_ ?_
              · refine ⟨?_, ?_, ?_, ?_, ?_, ?_, ?_, ?_, ?_, ?_, ?_, ?_, ?_, ?_, ?_, ?_, ?_, ?_, ?_, ?_, ?_, ?_, ?_, ?_, ?_, ?_, ?_, ?_, ?_, ?_, trivial⟩
                · intro ac w hR hd hk K hK
                  have e11 : ac.tmps[11]?.getD undef = (.pointer (some ⟨b11, 0, none⟩) : Value) := slot (get_keep (hk 11 (no_dst (by kernel_rfl))) rfl)
                  refine yes (want_n rfl) ?_
                  have hv := hid (hK (.pointer (some ⟨b11, 15, none⟩)) w (PrV.is rfl rfl) (Below.refl _ _))
                  go_simp
                  refine kq hv.out ?_
                  rfl
                · intro ac w hR hd hk K hK
                  have e94 : ac.tmps[94]?.getD undef = (.pointer (some ⟨b11, 15, none⟩) : Value) := slot ((hd 0 _ 94 rfl rfl rfl).val rfl)
                  have x1 := stay hR n15
                  refine yes (want_n rfl) ?_
                  have hv := hid (hK (.int .u32 t.on) w (PrV.is rfl rfl) (Below.refl _ _))
                  go_simp
                  refine kq hv.out ?_
                  rfl
                · intro ac w hR hd hk K hK
                  have e10 : ac.tmps[10]?.getD undef = (.pointer (some ⟨b10, 0, none⟩) : Value) := slot (get_keep (hk 10 (no_dst (by kernel_rfl))) rfl)
                  refine yes (want_n rfl) ?_
                  have hv := hid (hK (.pointer (some ⟨b10, 0, none⟩)) w (PrV.is rfl rfl) (Below.refl _ _))
                  go_simp
                  refine kq hv.out ?_
                  rfl
                · intro ac w hR hd hk K hK
                  have e96 : ac.tmps[96]?.getD undef = (.pointer (some ⟨b10, 0, none⟩) : Value) := slot ((hd 2 _ 96 rfl rfl rfl).val rfl)
                  have x1 := stay hR t0
                  refine yes (want_n rfl) ?_
                  have hv := hid (hK (.int .u32 t.on) w (PrV.is rfl rfl) (Below.refl _ _))
                  go_simp
                  refine kq hv.out ?_
                  rfl
                · intro ac w hR hd hk K hK
                  have e95 : ac.tmps[95]?.getD undef = (.int .u32 t.on : Value) := slot ((hd 1 _ 95 rfl rfl rfl).val rfl)
                  have e97 : ac.tmps[97]?.getD undef = (.int .u32 t.on : Value) := slot ((hd 3 _ 97 rfl rfl rfl).val rfl)
                  refine yes (want_n rfl) ?_
                  have hv := hid (hK (.bool false) w (PrV.is rfl rfl) (Below.refl _ _))
                  go_simp
                  refine kq hv.out ?_
                  simp
                · exact fun ac w hR hd hk K hK => yes (want_n rfl) (wp_mv _ rfl _ ((hd 4 _ 98 rfl rfl rfl).val rfl) (hK _ w (PrV.is rfl rfl) (Below.refl _ _)))
                · intro ac w hR hd hk K hK
                  have e11 : ac.tmps[11]?.getD undef = (.pointer (some ⟨b11, 0, none⟩) : Value) := slot (get_keep (hk 11 (no_dst (by kernel_rfl))) rfl)
                  refine yes (want_g rfl rfl ((hd 5 _ 99 rfl rfl rfl).val rfl)) ?_
                  have hv := hid (hK (.pointer (some ⟨b11, 15, none⟩)) w (PrV.is rfl rfl) (Below.refl _ _))
                  go_simp
                  refine kq hv.out ?_
                  rfl
                · intro ac w hR hd hk K hK
                  have e100 : ac.tmps[100]?.getD undef = (.pointer (some ⟨b11, 15, none⟩) : Value) := slot ((hd 6 _ 100 rfl rfl rfl).val rfl)
                  have x1 := stay hR n15
                  refine yes (want_g rfl rfl ((hd 5 _ 99 rfl rfl rfl).val rfl)) ?_
                  have hv := hid (hK (.int .u32 t.on) w (PrV.is rfl rfl) (Below.refl _ _))
                  go_simp
                  refine kq hv.out ?_
                  rfl
                · exact fun ac w hR hd hk K hK => yes (want_g rfl rfl ((hd 5 _ 99 rfl rfl rfl).val rfl)) (wp_callv 24 _ _ rfl _ Try.func24 rfl rfl _ (args1 ((hd 7 _ 101 rfl rfl rfl).val rfl)) (kC w) (by rintro e w' ⟨rfl, hb⟩; exact ⟨_, rfl, hK _ w' (PrV.is rfl rfl) (hb)⟩))
                · intro ac w hR hd hk K hK
                  have e4 : ac.tmps[4]?.getD undef = (.pointer (some ⟨g, 0, none⟩) : Value) := slot (get_keep (hk 4 (no_dst (by kernel_rfl))) rfl)
                  refine yes (want_g rfl rfl ((hd 5 _ 99 rfl rfl rfl).val rfl)) ?_
                  have hv := hid (hK (.pointer (some ⟨g, 4, none⟩)) w (PrV.is rfl rfl) (Below.refl _ _))
                  go_simp
                  refine kq hv.out ?_
                  rfl
                · intro ac w hR hd hk K hK
                  have e103 : ac.tmps[103]?.getD undef = (.pointer (some ⟨g, 4, none⟩) : Value) := slot ((hd 9 _ 103 rfl rfl rfl).val rfl)
                  have x1 := stay hR s4
                  refine yes (want_g rfl rfl ((hd 5 _ 99 rfl rfl rfl).val rfl)) ?_
                  have hv := hid (hK (.int .i64 s.nodes) w (PrV.is rfl rfl) (Below.refl _ _))
                  go_simp
                  refine kq hv.out ?_
                  rfl
                · intro ac w hR hd hk K hK
                  have e102 : ac.tmps[102]?.getD undef = (.int .i64 s.nodes : Value) := slot ((hd 8 _ 102 rfl rfl rfl).val rfl)
                  have e104 : ac.tmps[104]?.getD undef = (.int .i64 s.nodes : Value) := slot ((hd 10 _ 104 rfl rfl rfl).val rfl)
                  refine yes (want_g rfl rfl ((hd 5 _ 99 rfl rfl rfl).val rfl)) ?_
                  have hv := hid (hK (.bool false) w (PrV.is rfl rfl) (Below.refl _ _))
                  go_simp
                  refine kq hv.out ?_
                  simp
                · exact fun ac w hR hd hk K hK => yes (want_n rfl) (wp_pick _ _ _ rfl false _ ((hd 5 _ 99 rfl rfl rfl).val rfl) ((hd 11 _ 105 rfl rfl rfl).val rfl) (hK _ w (PrV.is rfl rfl) (Below.refl _ _)))
                · exact fun ac w hR hd hk K hK => yes (want_n rfl) (wp_mv _ rfl _ ((hd 12 _ 106 rfl rfl rfl).val rfl) (hK _ w (PrV.is rfl rfl) (Below.refl _ _)))
                · intro ac w hR hd hk K hK
                  have e11 : ac.tmps[11]?.getD undef = (.pointer (some ⟨b11, 0, none⟩) : Value) := slot (get_keep (hk 11 (no_dst (by kernel_rfl))) rfl)
                  refine yes (want_g rfl rfl ((hd 13 _ 107 rfl rfl rfl).val rfl)) ?_
                  have hv := hid (hK (.pointer (some ⟨b11, 13, none⟩)) w (PrV.is rfl rfl) (Below.refl _ _))
                  go_simp
                  refine kq hv.out ?_
                  rfl
                · intro ac w hR hd hk K hK
                  have e108 : ac.tmps[108]?.getD undef = (.pointer (some ⟨b11, 13, none⟩) : Value) := slot ((hd 14 _ 108 rfl rfl rfl).val rfl)
                  have x1 := stay hR n13
                  refine yes (want_g rfl rfl ((hd 13 _ 107 rfl rfl rfl).val rfl)) ?_
                  have hv := hid (hK (.int .i64 t.now) w (PrV.is rfl rfl) (Below.refl _ _))
                  go_simp
                  refine kq hv.out ?_
                  rfl
                · intro ac w hR hd hk K hK
                  have e10 : ac.tmps[10]?.getD undef = (.pointer (some ⟨b10, 0, none⟩) : Value) := slot (get_keep (hk 10 (no_dst (by kernel_rfl))) rfl)
                  refine yes (want_g rfl rfl ((hd 13 _ 107 rfl rfl rfl).val rfl)) ?_
                  have hv := hid (hK (.pointer (some ⟨b10, 3, none⟩)) w (PrV.is rfl rfl) (Below.refl _ _))
                  go_simp
                  refine kq hv.out ?_
                  rfl
                · intro ac w hR hd hk K hK
                  have e110 : ac.tmps[110]?.getD undef = (.pointer (some ⟨b10, 3, none⟩) : Value) := slot ((hd 16 _ 110 rfl rfl rfl).val rfl)
                  have x1 := stay hR t3
                  refine yes (want_g rfl rfl ((hd 13 _ 107 rfl rfl rfl).val rfl)) ?_
                  have hv := hid (hK (.int .i64 t.now) w (PrV.is rfl rfl) (Below.refl _ _))
                  go_simp
                  refine kq hv.out ?_
                  rfl
                · intro ac w hR hd hk K hK
                  have e109 : ac.tmps[109]?.getD undef = (.int .i64 t.now : Value) := slot ((hd 15 _ 109 rfl rfl rfl).val rfl)
                  have e111 : ac.tmps[111]?.getD undef = (.int .i64 t.now : Value) := slot ((hd 17 _ 111 rfl rfl rfl).val rfl)
                  refine yes (want_g rfl rfl ((hd 13 _ 107 rfl rfl rfl).val rfl)) ?_
                  have hv := hid (hK (.bool false) w (PrV.is rfl rfl) (Below.refl _ _))
                  go_simp
                  refine kq hv.out ?_
                  simp
                · exact fun ac w hR hd hk K hK => yes (want_n rfl) (wp_pick _ _ _ rfl false _ ((hd 13 _ 107 rfl rfl rfl).val rfl) ((hd 18 _ 112 rfl rfl rfl).val rfl) (hK _ w (PrV.is rfl rfl) (Below.refl _ _)))
                · exact fun ac w hR hd hk K hK => yes (want_n rfl) (wp_mv _ rfl _ ((hd 19 _ 113 rfl rfl rfl).val rfl) (hK _ w (PrV.is rfl rfl) (Below.refl _ _)))
                · intro ac w hR hd hk K hK
                  exact yes (want_g rfl rfl ((hd 20 _ 114 rfl rfl rfl).val rfl)) (wp_load_row 29 _ rfl b11 ((get_keep (hk 11 (no_dst (by kernel_rfl))) rfl)) 29 (jc NX).toArray (0, 0) _ (by rw [hR.block _ lb11]; exact rowb11.out) Try.underlying29 rfl (by kernel_rfl) (hK _ w (PrV.is rfl rfl) (Below.refl _ _)))
                · exact fun ac w hR hd hk K hK => yes (want_g rfl rfl ((hd 20 _ 114 rfl rfl rfl).val rfl)) (wp_callv 16 _ _ rfl _ Try.func16 rfl rfl _ (args1 ((hd 21 _ 115 rfl rfl rfl).val rfl)) (kE w) (by rintro e w' ⟨rfl, hb⟩; exact ⟨_, rfl, hK _ w' (PrV.is rfl rfl) (hb)⟩))
                · intro ac w hR hd hk K hK
                  have e10 : ac.tmps[10]?.getD undef = (.pointer (some ⟨b10, 0, none⟩) : Value) := slot (get_keep (hk 10 (no_dst (by kernel_rfl))) rfl)
                  refine yes (want_g rfl rfl ((hd 20 _ 114 rfl rfl rfl).val rfl)) ?_
                  have hv := hid (hK (.pointer (some ⟨b10, 3, none⟩)) w (PrV.is rfl rfl) (Below.refl _ _))
                  go_simp
                  refine kq hv.out ?_
                  rfl
                · intro ac w hR hd hk K hK
                  have e117 : ac.tmps[117]?.getD undef = (.pointer (some ⟨b10, 3, none⟩) : Value) := slot ((hd 23 _ 117 rfl rfl rfl).val rfl)
                  have x1 := stay hR t3
                  refine yes (want_g rfl rfl ((hd 20 _ 114 rfl rfl rfl).val rfl)) ?_
                  have hv := hid (hK (.int .i64 t.now) w (PrV.is rfl rfl) (Below.refl _ _))
                  go_simp
                  refine kq hv.out ?_
                  rfl
                · intro ac w hR hd hk K hK
                  have e4 : ac.tmps[4]?.getD undef = (.pointer (some ⟨g, 0, none⟩) : Value) := slot (get_keep (hk 4 (no_dst (by kernel_rfl))) rfl)
                  refine yes (want_g rfl rfl ((hd 20 _ 114 rfl rfl rfl).val rfl)) ?_
                  have hv := hid (hK (.pointer (some ⟨g, 6, none⟩)) w (PrV.is rfl rfl) (Below.refl _ _))
                  go_simp
                  refine kq hv.out ?_
                  rfl
                · intro ac w hR hd hk K hK
                  have e119 : ac.tmps[119]?.getD undef = (.pointer (some ⟨g, 6, none⟩) : Value) := slot ((hd 25 _ 119 rfl rfl rfl).val rfl)
                  have x1 := stay hR s6
                  refine yes (want_g rfl rfl ((hd 20 _ 114 rfl rfl rfl).val rfl)) ?_
                  have hv := hid (hK (.int .i64 s.lim) w (PrV.is rfl rfl) (Below.refl _ _))
                  go_simp
                  refine kq hv.out ?_
                  rfl
                · intro ac w hR hd hk K hK
                  have e118 : ac.tmps[118]?.getD undef = (.int .i64 t.now : Value) := slot ((hd 24 _ 118 rfl rfl rfl).val rfl)
                  have e120 : ac.tmps[120]?.getD undef = (.int .i64 s.lim : Value) := slot ((hd 26 _ 120 rfl rfl rfl).val rfl)
                  refine yes (want_g rfl rfl ((hd 20 _ 114 rfl rfl rfl).val rfl)) ?_
                  have hv := hid (hK (.int .i64 (wrap64 (t.now + s.lim))) w (PrV.is rfl rfl) (Below.refl _ _))
                  go_simp
                  refine kq hv.out ?_
                  first | rfl | (rw [IntKind.wrap_i64]; rfl) | (simp [IntKind.wrap_i64, wrap64])
                · intro ac w hR hd hk K hK
                  have e116 : ac.tmps[116]?.getD undef = (.int .i64 (wrap64 (t.now + s.lim)) : Value) := slot ((hd 22 _ 116 rfl rfl rfl).val rfl)
                  have e121 : ac.tmps[121]?.getD undef = (.int .i64 (wrap64 (t.now + s.lim)) : Value) := slot ((hd 27 _ 121 rfl rfl rfl).val rfl)
                  refine yes (want_g rfl rfl ((hd 20 _ 114 rfl rfl rfl).val rfl)) ?_
                  have hv := hid (hK (.bool false) w (PrV.is rfl rfl) (Below.refl _ _))
                  go_simp
                  refine kq hv.out ?_
                  simp
                · exact fun ac w hR hd hk K hK => yes (want_n rfl) (wp_pick _ _ _ rfl false _ ((hd 20 _ 114 rfl rfl rfl).val rfl) ((hd 28 _ 122 rfl rfl rfl).val rfl) (hK _ w (PrV.is rfl rfl) (Below.refl _ _)))
              · intro a w10 hdf hsz hkp hval hRw
                obtain ⟨f, hf⟩ : ∃ f, f = fun d => a.tmps.getD d undef := ⟨_, rfl⟩
                have h123 : f 123 = .bool false := by rw [hf]; exact (hval 29 _ 123 rfl rfl).val rfl
                have hfa := act_filled hdf hsz hkp
                rw [← hf] at hfa
                rw [hfa]
                clear hdf hsz hkp hval hfa hf
                clear a
                simp only [fillAll, List.set_cons_zero, List.set_cons_succ, h123]
                clear h123
                have rowX : w10.heap[b11]? = some (.cells (jc NX).toArray 29 (0, 0)) := by rw [hRw.block _ (row_lt rowb11.out)]; exact rowb11.out
                have rowY : w10.heap[b7]? = some (.cells (jc J).toArray 29 (0, 0)) := by rw [hRw.block _ (row_lt rowb7.out)]; exact rowb7.out
                have hown10 := hown9.out.below hRw
                have hnew := hid (hI9.out.set hRw (n' := 1) (base := W5.heap.size + 1 + 1) (by have := hge.out; omega) hgb2 hNid.out hNsub.out ⟨X1, Z1, hNXs.out⟩ hNrt.out (by rw [hNXs.out]; exact hown10) (by have := row_lt rowJ.out; omega) (by rw [hNon.out]; exact hto) (by rw [hNon.out]; exact hto2) (by omega) (fun h => by rw [hNst.out] at h; omega))
                replace rowX := hid rowX
                replace rowY := hid rowY
                go_wp2_with (first
                  | (refine wpList_load_row rfl 29 (.tmp 11) rfl b11 rfl 29 (jc NX).toArray (0, 0) _ rowX.out Try.underlying29 rfl (by kernel_rfl) ?_)
                  | (refine wpList_store_row rfl 29 (.tmp 7) (.tmp 149) rfl b7 (jc NX).toArray rfl rfl 29 _ rowY.out (by kernel_rfl) rfl (jc_all _) ?_))
                go_roundw
                case rel => exact ⟨j + 1, 1, NX, by omega, by omega, by go_num, by go_num, hnew⟩
                case measure => simp [intOf]; omega
            · obtain rfl := hBT.no hE
              clear hBT
              have dE : (beginE J t.on t.now != 0) = true := by simpa using hE
              have hbe : Below W3.heap.size W3 (w6.setRow b11 (jc job0).toArray) := below_setRow (bnext B5 hb6) (by omega) _
              have r11 := setRow_heap w6 b11 _ (jc job0).toArray _ _ row11b
              have kS := samejob job0 [] none 0 (w6.setRow b11 (jc job0).toArray) rfl (by decide) (DAt.nil _ _) (DAt.nil _ _)
              rw [show job0.re none 0 = job0 from rfl] at kS
              have hIe := hid (hI3.out.step hbe)
              generalize beginE J t.on t.now = E2 at *
              replace hE := hid hE
              replace r11 := hid r11
              replace row11b := hid row11b
              go_wp2_with (first
                | (refine wpList_store_row rfl 29 (.tmp 11) (.tmp 55) rfl b11 (jc job0).toArray rfl rfl 29 _ row11b.out (by kernel_rfl) rfl (jc_all _) ?_)
                | (refine wpList_load_row rfl 29 (.tmp 11) rfl b11 rfl 29 (jc job0).toArray (0, 0) _ r11.out Try.underlying29 rfl (by kernel_rfl) ?_))
              refine kS.mono ?_
              rintro e w8 ⟨rfl, hb8⟩
              go_wp2_with fail
              go_roundw
              case rel => exact ⟨j + 1, n, J, by omega, hn, by go_num, rfl, hid (hIe.out.step hb8)⟩
              case measure => simp [intOf]; omega
          · have dst : (t.st == 0) = false := by simpa using hst
            have al5 : ∀ C, Below w4.heap.size w4 (w4.alloc (.cells C 29)) := fun C => below_lit w4 _
            by_cases hE : finE J t.st t.now = 0
            · obtain ⟨q1, q2, q3, q4, q5⟩ := fin_zero hE
              have q4b := (over_iff _).1 q4
              have q5b := (fol_iff _ _).1 q5
              have hbr := fun u v => fini_right t.x hE u v
              rw [hE] at hBT
              obtain ⟨X1, Z1, rfl, hy1, hownX⟩ := hBT.ok
              obtain ⟨NX, hNX⟩ : ∃ J', J' = (fini J t.st t.x t.now).re X1 Z1 := ⟨_, rfl⟩
              rw [← hNX]
              have hNid : NX.id = id := by rw [hNX]; exact hI3.out.idd
              have hNsub : NX.sub = 0 := by rw [hNX]; exact hI3.out.sub
              have hNXs : NX.s = s.re X1 Z1 := by
                rw [hNX]
                show J.s.re X1 Z1 = _
                rw [hJs.out]; rfl
              have hNrt : rightB NX = true := by rw [hNX]; exact hbr _ _
              have hNon : NX.on = J.on := by rw [hNX]; rfl
              have hNst : NX.st = t.st := by rw [hNX]; rfl
              have hNbeg : NX.beg = J.beg := by rw [hNX]; rfl
              have hNfin : NX.fin = t.now := by rw [hNX]; rfl
              have hdx : DOwn w4 (W3.heap.size + 1 + 1) (.slice X1 s.dn Z1) D := by
                have := hownX
                rw [show (fini J t.st t.x t.now).s.dn = s.dn from hdn.out] at this
                exact this
              have r11 : (w4.alloc (.cells (jc NX).toArray 29)).heap[w4.heap.size]? = some (.cells (jc NX).toArray 29 (0, 0)) := heap_alloc_new w4 _
              have hbe : Below W3.heap.size W3 (w4.alloc (.cells (jc NX).toArray 29)) := bnext hb4 (al5 _)
              obtain ⟨W5, hW5⟩ : ∃ W, W = w4.alloc (.cells (jc NX).toArray 29) := ⟨_, rfl⟩
              have hownX2 := hdx.below (al5 (jc NX).toArray)
              rw [← hW5] at r11 hbe hownX2
              have hIe := hid (hI3.out.step hbe)
              clear hdx hownX
              have hownX := hid hownX2
              clear hownX2
              replace t0 := stay hbe t0
              replace t1 := stay hbe t1
              replace t3 := stay hbe t3
              have n0 := row_cell r11 0 (.int .i64 id) (by rw [← hNid]; rfl)
              have n11 := row_cell r11 11 (.int .u8 NX.st) rfl
              have n12 := row_cell r11 12 (.int .i64 0) (by rw [← hNsub]; rfl)
              have n13 := row_cell r11 13 (.int .i64 NX.beg) rfl
              have n14 := row_cell r11 14 (.int .i64 NX.fin) rfl
              have n15 := row_cell r11 15 (.int .u32 NX.on) rfl
              rw [hNst] at n11
              rw [hNbeg] at n13
              rw [hNfin] at n14
              rw [hNon] at n15
              have rowJe := hIe.out.row
              have j11 := row_cell rowJe 11 (.int .u8 J.st) rfl
              have lt10 := World.block_lt_of_cell? _ _ t1
              have lt11 := World.block_lt_of_cell? _ _ n11
              have lt7 := World.block_lt_of_cell? _ _ j11
              have kO := fun w => over_any J.st w
              rw [show overB J.st = false by rw [Bool.eq_false_iff]; intro h; rw [over_iff] at h; omega] at kO
              have kO2 := fun w => over_any t.st w
              rw [q4] at kO2
              have kRX := fun w => right_any NX w (by rw [hNon]; exact hI3.out.lo) (by rw [hNon]; exact hI3.out.hi)
              rw [hNrt] at kRX
              replace rowJe := hid rowJe
              replace r11 := hid r11
              replace hE := hid hE
              replace hNX := hid hNX
              replace hNid := hid hNid
              replace hNsub := hid hNsub
              replace hNXs := hid hNXs
              replace hNrt := hid hNrt
              replace hNon := hid hNon
              replace hNst := hid hNst
              replace hNbeg := hid hNbeg
              replace hNfin := hid hNfin
              replace q4 := hid q4
              replace q5 := hid q5
              replace q4b := hid q4b
              replace q5b := hid q5b
              replace hst := hid hst
              replace hW5 := hid hW5
              clear hbr hBT hbe al5
              go_wp2_with (refine wpList_store_row rfl 29 (.tmp 11) (.tmp 43) rfl w4.heap.size (jc NX).toArray rfl rfl 29 _ (heap_alloc_new w4 _) (by kernel_rfl) rfl (jc_all _) ?_; rw [alloc_setRow]; rw [← hW5.out])
              generalize hb11e : w4.heap.size = b11 at *
              replace hb11e := hid hb11e
              refine (kO _).mono ?_
              rintro e wo ⟨rfl, rfl⟩
              go_wp2_with (refine gload_row 3 false 66 rfl rfl rfl 29 (.tmp 11) rfl b11 rfl 29 (jc NX).toArray (0, 0) _ r11.out Try.underlying29 (by kernel_rfl) ?_)
              refine (kRX _).mono ?_
              rintro e w8 ⟨rfl, hb8⟩
              replace t0 := stay hb8 t0
              replace t1 := stay hb8 t1
              replace t3 := stay hb8 t3
              replace n0 := stay hb8 n0
              replace n11 := stay hb8 n11
              replace n12 := stay hb8 n12
              replace n13 := stay hb8 n13
              replace n14 := stay hb8 n14
              replace n15 := stay hb8 n15
              replace lt10 := World.block_lt_of_cell? _ _ t1
              replace lt11 := World.block_lt_of_cell? _ _ n0
              have Ie8 := hIe.out.step hb8
              have r8 : w8.heap[b11]? = some (.cells (jc NX).toArray 29 (0, 0)) := by rw [hb8.block _ (row_lt r11.out)]; exact r11.out
              have hm8 := hid (job_range r8)
              have rs8 := hid Ie8.rs
              have hown8 := hid (hownX.out.below hb8)
              have kSp := samespec s D X1 Z1 w8 hD.out (by omega) (by have := hown8.out.dat; exact this) (hat.out.below Ie8.bel)
              replace Ie8 := hid Ie8
              replace r8 := hid r8
              go_wp2_with (first
                | (refine gload_mid 19 false 82 rfl rfl rfl 24 (.tmp 83) rfl b11 3 rfl (sc NX.s) _ hm8.out Try.underlying24 rfl (by kernel_rfl) ?_; rw [hNXs.out])
                | (refine gload_row 19 false 82 rfl rfl rfl 24 (.tmp 4) rfl g rfl 24 (sc s).toArray (0, 0) _ rs8.out Try.underlying24 (by kernel_rfl) ?_))
              refine kSp.mono ?_
              rintro e w9 ⟨rfl, hb9⟩
              replace t0 := stay hb9 t0
              replace t1 := stay hb9 t1
              replace t3 := stay hb9 t3
              replace n11 := stay hb9 n11
              replace n13 := stay hb9 n13
              replace n14 := stay hb9 n14
              replace n15 := stay hb9 n15
              replace lt10 := World.block_lt_of_cell? _ _ t1
              replace lt11 := World.block_lt_of_cell? _ _ n11
              have Ie9 := Ie8.out.step hb9
              have rowb11 : w9.heap[b11]? = some (.cells (jc NX).toArray 29 (0, 0)) := by rw [hb9.block _ (row_lt r8.out)]; exact r8.out
              have hown9 := hid (hown8.out.below hb9)
              clear kSp hm8 rs8 r8 r11 hown8 hownX Ie8 hIe n0 n12
              replace rowb11 := hid rowb11
              have rowb7 := hid Ie9.row
              have j13 := row_cell rowb7.out 13 (.int .i64 J.beg) rfl
              have j15 := row_cell rowb7.out 15 (.int .u32 J.on) rfl
              have hnew := hid (Ie9.set (Below.refl _ _) (n' := n) (base := W3.heap.size + 1 + 1) (by have := hge.out; omega) hgb2 hNid.out hNsub.out ⟨X1, Z1, hNXs.out⟩ hNrt.out (by rw [hNXs.out]; exact hown9.out) (by have := row_lt rowJ.out; omega) (by rw [hNon.out]; exact hI3.out.lo) (by rw [hNon.out]; exact hI3.out.hi) hn (fun h => by rw [hNst.out] at h; have := q4b.out; omega))
              clear Ie9
              go_wp2_with fail
              refine (kO2 _).mono ?_
              rintro e wz ⟨rfl, rfl⟩
              go_wp2_with (first
                | (refine wpList_load_row rfl 29 (.tmp 11) rfl b11 rfl 29 (jc NX).toArray (0, 0) _ rowb11.out Try.underlying29 rfl (by kernel_rfl) ?_)
                | (refine wpList_store_row rfl 29 (.tmp 7) (.tmp 149) rfl b7 (jc NX).toArray rfl rfl 29 _ rowb7.out (by kernel_rfl) rfl (jc_all _) ?_))
              go_roundw
              case rel => exact ⟨j + 1, n, NX, by omega, hn, by go_num, rfl, hnew⟩
              case measure => simp [intOf]; omega
            · obtain rfl := hBT.no hE
              clear hBT
              have dE : (finE J t.st t.now != 0) = true := by simpa using hE
              have row11 : (w4.alloc (.cells (jc job0).toArray 29)).heap[w4.heap.size]? = some (.cells (jc job0).toArray 29 (0, 0)) := heap_alloc_new w4 _
              have hbe := bnext hb4 (al5 (jc job0).toArray)
              have kS := samejob job0 [] none 0 (w4.alloc (.cells (jc job0).toArray 29)) rfl (by decide) (DAt.nil _ _) (DAt.nil _ _)
              rw [show job0.re none 0 = job0 from rfl] at kS
              have hIe := hid (hI3.out.step hbe)
              replace t1 := stay hbe t1
              have lt10 := World.block_lt_of_cell? _ _ t1
              generalize finE J t.st t.now = E2 at *
              replace hE := hid hE
              replace row11 := hid row11
              clear al5 hbe
              go_wp2_with (first
                | (refine wpList_store_row rfl 29 (.tmp 11) (.tmp 43) rfl w4.heap.size (jc job0).toArray rfl rfl 29 _ (heap_alloc_new w4 _) (by kernel_rfl) rfl (jc_all _) ?_; rw [alloc_setRow])
                | (refine wpList_load_row rfl 29 (.tmp 11) rfl w4.heap.size rfl 29 (jc job0).toArray (0, 0) _ row11.out Try.underlying29 rfl (by kernel_rfl) ?_))
              refine kS.mono ?_
              rintro e w8 ⟨rfl, hb8⟩
              go_wp2_with fail
              go_roundw
              case rel => exact ⟨j + 1, n, J, by omega, hn, by go_num, rfl, hid (hIe.out.step hb8)⟩
              case measure => simp [intOf]; omega
        · have d1 : decide ((j : Int) < 60) = false := by simp; omega
          go_wp2_with fail
          refine (awake_any _).mono ?_
          rintro e w5 ⟨rfl, hb5⟩
          go_wp2
          go_ret
          exact ⟨rfl, hdone.out _ hb5⟩
      · have hje : j = k := by omega
        subst hje
        go_wp2_with fail
        refine (awake_any _).mono ?_
        rintro e w5 ⟨rfl, hb5⟩
        go_wp2
        go_ret
        exact ⟨rfl, hdone.out _ hb5⟩

end Go.Proofs.Ytlhmlfinflodaaa
