/- stableCmpFunc and SortStableFunc of places. -/
import Derived.Test.YtflapjehkgefdaaGreatSr5
namespace Go.Proofs.YtflapjehkgefdaaGreat
open Go.Shelf Go.RowKit Go.Lib Go.Sort
set_option linter.unusedVariables false
variable {w0 W : World} {blk off : Nat} {d0 dk : Array Plc}

def insRen : Go.Shelf.Ren := ⟨fun | 20 => 77 | n => n, fun | 22 => 68 | 24 => 73 | 25 => 74 | n => n, fun n => n⟩
theorem insL : Go.Proofs.SlLaysF0.n20 Tryz.prog insRen := {
  mixed := by kernel_rfl
  f20 := ⟨Tryz.f77.name, by decide, Tryz.func77.trans (congrArg some (by kernel_rfl))⟩
  t0 := Tryz.underlying0
  a0 := Tryz.isAgg0
  z0 := Tryz.sizeOf0
  v0 := Tryz.zeroValue0
  t3 := Tryz.underlying3
  a3 := Tryz.isAgg3
  z3 := Tryz.sizeOf3
  v3 := Tryz.zeroValue3
  t4 := Tryz.underlying4
  a4 := Tryz.isAgg4
  z4 := Tryz.sizeOf4
  v4 := Tryz.zeroValue4
  t22 := Tryz.underlying68
  a22 := Tryz.isAgg68
  z22 := Tryz.sizeOf68
  v22 := Tryz.zeroValue68
  t25 := Tryz.underlying74
  a25 := Tryz.isAgg74
  z25 := Tryz.sizeOf74
  v25 := Tryz.zeroValue74 }

theorem plc_len (x : Plc) : (plc x).length = 2 := rfl
theorem plc_one (x : Plc) : ∀ v ∈ plc x, v.oneCell' = true := fun v hv => by
  simp [plc] at hv; rcases hv with rfl | rfl <;> rfl
theorem cmp_on {cf : Plc → Plc → Int} {size : Nat} (S : SWK plc 2 w0 blk off dk W) (hblk : blk < w0.heap.size) (hC : CmpLays Tryz.prog 29 #[] plc 2 cf blk off size w0) (hs : dk.size = size) : CmpLays Tryz.prog 29 #[] plc 2 cf blk off size W := fun m os d' h' x y => by
  obtain ⟨n, os', e⟩ := S.on hblk m d' os (h'.trans hs.symm)
  rw [e]
  exact hC n os' d' h' x y
/-- insertionSortCmpFunc. -/
theorem ins_any (cap k a b : Nat) (d : Array Plc) (cf : Plc → Plc → Int) (hO : SWO (ltOf cf)) (w : World) (hC : CmpLays Tryz.prog 29 #[] plc 2 cf blk off k w0) (R : RowK plc 2 w0 blk off d0) (hs : d.size = d0.size) (hk : d.size = k) (S : SWK plc 2 w0 blk off d w) (hab : a ≤ b) (hb : b ≤ k) (hsz : k < 2305843009213693952) :
    Calls Tryz.prog 77 #[.slice (some ⟨blk, off, none⟩) k cap, .int .i64 a, .int .i64 b, .func (.func 29) #[] #[]] w (SymTold cf w0 blk off a b d) := by
  have eg : ∀ args w, (callFunc 29 args).run Tryz.prog w = .ok (.enter 29 args) w := enters_of Tryz.func29 (by kernel_rfl) rfl
  have hC2 := cmp_on S R.hblk hC hk
  rw [← hk] at hC2
  have h := AnyQ.insertionSortCmpFunc insL 2 Tryz.isAgg73 Tryz.sizeOf73 plc plc_len plc_one cf 29 #[] blk off cap a b d w eg hC2 (S.holds R.hblk R.hH hs) (S.lt R.hblk) hab (by omega) (by omega)
  rw [hk] at h
  change Calls Tryz.prog 77 _ _ _ at h
  refine h.mono ?_
  rintro e w' ⟨rfl, n, os, rfl⟩
  have hp := insertionSort_holds (lt := ltOf cf) hO d a b hab (by omega)
  exact ⟨rfl, _, ⟨hp.1, hp.2⟩, S.on R.hblk n _ os hp.1.1⟩

/-- What sorting tells. -/
def StbTold (cf : Plc → Plc → Int) (w0 : World) (blk off k : Nat) (d : Array Plc) (e : Ending) (w' : World) : Prop :=
  e = .returned (.tuple #[]) ∧ ∃ d', (PermIn 0 k d d' ∧ SortedIn (ltOf cf) 0 k d') ∧ SWK plc 2 w0 blk off d' w'

set_option maxHeartbeats 1000000 in
set_option maxRecDepth 100000 in
theorem stable_any (cap k : Nat) (d : Array Plc) (cf : Plc → Plc → Int) (hO : SWO (ltOf cf)) (w : World) (hC : CmpLays Tryz.prog 29 #[] plc 2 cf blk off k w0) (R : RowK plc 2 w0 blk off d0) (hs : d.size = d0.size) (hk : d.size = k) (S : SWK plc 2 w0 blk off d w) (hsz : k < 1000000000000000000) :
    Calls Tryz.prog 68 #[.slice (some ⟨blk, off, none⟩) k cap, .int .i64 k, .func (.func 29) #[] #[]] w (StbTold cf w0 blk off k d) := by
  have S0 := hid S
  have HS := hid hs
  have HK := hid hk
  have hins := hid fun (a b : Nat) (d' : Array Plc) (w' : World) (p : PermIn 0 k d d') (S' : SWK plc 2 w0 blk off d' w') (hab : a ≤ b) (hb : b ≤ k) => ins_any cap k a b d' cf hO w' hC R (p.1.trans hs) (p.1.trans hk) S' hab hb (by omega)
  have hsym := hid fun (a m b : Nat) (d' : Array Plc) (w' : World) (p : PermIn 0 k d d') (S' : SWK plc 2 w0 blk off d' w') => sym_any cap k cf hO hC R (hs.symm.trans hk) (by omega) (b - a) a m b d' w' (Nat.le_refl _)
  clear S hs hk
  go_enter Tryz.func68, Tryz.ntmps68
  go_wp2
  go_loopg [7, 8] (k + 20) (fun kx s7 s8 wr => ∃ (q q2 : Nat) (dk : Array Plc), s7 = .int .i64 q ∧ s8 = .int .i64 q2 ∧ Hid (q2 = q + 20) ∧ q ≤ k ∧ k + 20 - q ≤ kx ∧ Hid (q % 20 = 0 ∧ PermIn 0 k d dk ∧ Blks' (ltOf cf) 20 q k dk) ∧ Hid (SWK plc 2 w0 blk off dk wr))
  case atStart => exact ⟨0, 20, d, by simp, by simp, rfl, by omega, by omega, ⟨rfl, permIn_refl _ _ _, fun s h => by omega⟩, S0⟩
  case round =>
    clear S0
    obtain ⟨q, q2, dk, rfl, rfl, hq2, hqk, hkx, hB, S1⟩ := hrel
    by_cases hlt : q2 ≤ k
    · have d1 : (q2 : Int) ≤ (k : Int) := by omega
      have r1 : IntKind.i64.wrap ((q2 : Int) + 20) = (q2 : Int) + 20 := by rw [IntKind.wrap_i64]; omega
      have hc := hins.out q q2 dk wr hB.out.2.1 S1.out (by have := hq2.out; omega) hlt
      go_wp2_with fail
      refine hc.mono ?_
      rintro e w' ⟨rfl, d', hd', S2⟩
      have hB2 := hid (show q2 % 20 = 0 ∧ PermIn 0 k d d' ∧ Blks' (ltOf cf) 20 q2 k d' from ⟨by have := hq2.out; have := hB.out.1; omega, permIn_trans _ _ _ _ _ hB.out.2.1 (permIn_mono dk d' q q2 0 k (by omega) hlt (by rw [hB.out.2.1.1, HK.out]; exact Nat.le_refl _) hd'.1), by
        have := blks_step (bs := 20) (n := k) hB.out.1 hB.out.2.2 (d' := d') (by rw [← hq2.out, Nat.min_eq_left hlt]; exact hd'.1) (by rw [← hq2.out, Nat.min_eq_left hlt]; exact hd'.2)
        rwa [← hq2.out] at this⟩)
      replace S2 := hid S2
      clear hd' S1
      go_wp2
      go_roundg (k + 20 - q2)
      case measure => have := hq2.out; omega
      case rel => exact ⟨q2, q2 + 20, d', rfl, by simp, rfl, hlt, Nat.le_refl _, hB2, S2⟩
    · have d1 : ¬ (q2 : Int) ≤ (k : Int) := by omega
      have hc := hins.out q k dk wr hB.out.2.1 S1.out hqk (Nat.le_refl _)
      go_wp2_with fail
      refine hc.mono ?_
      rintro e w' ⟨rfl, d', hd', S2⟩
      have hmin : min (q + 20) k = k := Nat.min_eq_right (by have := hq2.out; omega)
      have hB2 : Hid (PermIn 0 k d d' ∧ Blks (ltOf cf) 20 0 k d') := hid ⟨permIn_trans _ _ _ _ _ hB.out.2.1 (permIn_mono dk d' q k 0 k (by omega) (Nat.le_refl _) (by rw [hB.out.2.1.1, HK.out]; exact Nat.le_refl _) hd'.1), by
        have h := blks_step (bs := 20) (n := k) hB.out.1 hB.out.2.2 (d' := d') (by rw [hmin]; exact hd'.1) (by rw [hmin]; exact hd'.2)
        exact blks_all fun s h1 h2 => h s (by have := hq2.out; omega) h2⟩
      replace S2 := hid S2
      clear hd' S1 hB hmin
      go_wp2
      go_loopg [6, 7, 8, 9] (2 * k + 20) (fun kx s6 s7 s8 s9 wr => ∃ (bs : Nat) (dk : Array Plc), s6 = .int .i64 bs ∧ 0 < bs ∧ bs ≤ 2 * k + 20 ∧ 2 * k + 20 - bs ≤ kx ∧ Hid (PermIn 0 k d dk ∧ Blks (ltOf cf) bs 0 k dk) ∧ Hid (SWK plc 2 w0 blk off dk wr))
      case atStart => exact ⟨20, d', by simp, by omega, by omega, by omega, hB2, S2⟩
      case round =>
        clear S2 hB2
        obtain ⟨bs, dk, rfl, hbs, hbk, hkx2, hB, S1⟩ := hrel
        by_cases hlt2 : bs < k
        · have d2 : (bs : Int) < (k : Int) := by omega
          have r1 : IntKind.i64.wrap (2 * (bs : Int)) = 2 * (bs : Int) := by rw [IntKind.wrap_i64]; omega
          have hBB : Hid (PermIn 0 k d dk ∧ Blks (ltOf cf) bs 0 k dk ∧ Blks' (ltOf cf) (2 * bs) 0 k dk) := hid ⟨hB.out.1, hB.out.2, fun s h => by omega⟩
          go_wp2
          go_loopg [7, 8] (k + 1) (fun kx s7 s8 wr => ∃ (q q2 : Nat) (dk : Array Plc), s7 = .int .i64 q ∧ s8 = .int .i64 q2 ∧ Hid (q2 = q + 2 * bs) ∧ q ≤ k ∧ k - q < kx ∧ Hid (q % (2 * bs) = 0 ∧ PermIn 0 k d dk ∧ Blks (ltOf cf) bs q k dk ∧ Blks' (ltOf cf) (2 * bs) q k dk) ∧ Hid (SWK plc 2 w0 blk off dk wr))
          case atStart => exact ⟨0, 2 * bs, dk, by simp, by simp, by show _ = _; omega, by omega, by omega, ⟨Nat.zero_mod _, hBB.out.1, hBB.out.2.1, hBB.out.2.2⟩, S1⟩
          case round =>
            clear S1 hB hBB
            obtain ⟨q, q2, dk, rfl, rfl, hq2', hqk2, hkx3, hB, S1⟩ := hrel
            have hmd := hid (mod_dbl hB.out.1)
            have hszk : Hid (k ≤ dk.size) := hid (by rw [hB.out.2.1.1, HK.out]; exact Nat.le_refl _)
            by_cases hlt3 : q2 ≤ k
            · have d3 : (q2 : Int) ≤ (k : Int) := by omega
              obtain ⟨M, hM⟩ : ∃ M, M = q + bs := ⟨_, rfl⟩
              have r2 : IntKind.i64.wrap (M : Int) = (M : Int) := by rw [IntKind.wrap_i64]; omega
              have eqb : (q : Int) + bs = (M : Int) := by omega
              have r3 : IntKind.i64.wrap ((q2 : Int) + 2 * bs) = (q2 : Int) + 2 * bs := by rw [IntKind.wrap_i64]; omega
              have eq2 := hq2'.out
              have hs1 := hB.out.2.2.1 q (Nat.le_refl _) hmd.out.1
              have hs2 := hB.out.2.2.1 M (by omega) (by rw [hM]; exact hmd.out.2)
              rw [Nat.min_eq_left (by omega)] at hs1 hs2
              rw [← hM] at hs1
              have hc := hsym.out q M q2 dk wr hB.out.2.1 S1.out (by omega) (by omega) hlt3 (by rw [hB.out.2.1.1]; exact HS.out) S1.out hs1 (by rw [show q2 = M + bs by omega]; exact hs2)
              unfold SymCall at hc
              clear hs1 hs2 eq2
              replace hM := hid hM
              go_wp2_with fail
              refine hc.mono ?_
              rintro e w' ⟨rfl, d2', hd', S2⟩
              have hB2 : Hid (q2 % (2 * bs) = 0 ∧ PermIn 0 k d d2' ∧ Blks (ltOf cf) bs q2 k d2' ∧ Blks' (ltOf cf) (2 * bs) q2 k d2') := hid ⟨by rw [hq2'.out, Nat.add_mod_right]; exact hB.out.1, permIn_trans _ _ _ _ _ hB.out.2.1 (permIn_mono dk d2' q q2 0 k (by omega) hlt3 hszk.out hd'.1), blks_keep hB.out.2.2.1 hd'.1 (by have := hq2'.out; omega), by
                have := blks_step (bs := 2 * bs) (n := k) hB.out.1 hB.out.2.2.2 (d' := d2') (by rw [← hq2'.out, Nat.min_eq_left hlt3]; exact hd'.1) (by rw [← hq2'.out, Nat.min_eq_left hlt3]; exact hd'.2)
                rwa [← hq2'.out] at this⟩
              replace S2 := hid S2
              clear hd' S1
              go_wp2
              go_roundg (k + 1 - q2)
              case measure => have := hq2'.out; omega
              case rel => exact ⟨q2, q2 + 2 * bs, d2', rfl, by simp, rfl, hlt3, by omega, hB2, S2⟩
            · have d3 : ¬ (q2 : Int) ≤ (k : Int) := by omega
              obtain ⟨M, hM⟩ : ∃ M, M = q + bs := ⟨_, rfl⟩
              have r2 : IntKind.i64.wrap (M : Int) = (M : Int) := by rw [IntKind.wrap_i64]; omega
              have eqb : (q : Int) + bs = (M : Int) := by omega
              have r4 : IntKind.i64.wrap ((bs : Int) * 2) = (bs : Int) * 2 := by rw [IntKind.wrap_i64]; omega
              have hmin : Hid (min (q + 2 * bs) k = k) := hid (Nat.min_eq_right (by have := hq2'.out; omega))
              have hfin : Hid (∀ d2', PermIn q k dk d2' → SortedIn (ltOf cf) q k d2' → PermIn 0 k d d2' ∧ Blks (ltOf cf) (2 * bs) 0 k d2') := hid fun d2' p' s' => ⟨permIn_trans _ _ _ _ _ hB.out.2.1 (permIn_mono dk d2' q k 0 k (by omega) (Nat.le_refl _) hszk.out p'), by
                have h := blks_step (bs := 2 * bs) (n := k) hB.out.1 hB.out.2.2.2 (d' := d2') (by rw [hmin.out]; exact p') (by rw [hmin.out]; exact s')
                exact blks_all fun s h1 h2 => h s (by have := hq2'.out; omega) h2⟩
              by_cases hlt4 : M < k
              · have d4 : (M : Int) < (k : Int) := by omega
                have hs1 := hB.out.2.2.1 q (Nat.le_refl _) hmd.out.1
                have hs2 := hB.out.2.2.1 M (by omega) (by rw [hM]; exact hmd.out.2)
                rw [Nat.min_eq_left (by omega), ← hM] at hs1
                rw [Nat.min_eq_right (by have := hq2'.out; omega)] at hs2
                have hc := hsym.out q M k dk wr hB.out.2.1 S1.out (by omega) hlt4 (Nat.le_refl _) (by rw [hB.out.2.1.1]; exact HS.out) S1.out hs1 hs2
                unfold SymCall at hc
                clear hs1 hs2
                replace hM := hid hM
                go_wp2_with fail
                refine hc.mono ?_
                rintro e w' ⟨rfl, d2', hd', S2⟩
                have hB2 := hid (hfin.out d2' hd'.1 hd'.2)
                replace S2 := hid S2
                clear hd' S1
                go_wp2
                go_roundg (2 * k + 20 - 2 * bs)
                case measure => omega
                case rel => exact ⟨2 * bs, d2', by simp; omega, by omega, by omega, Nat.le_refl _, hB2, S2⟩
              · have d4 : ¬ (M : Int) < (k : Int) := by omega
                have hs1 := hB.out.2.2.1 q (Nat.le_refl _) hmd.out.1
                rw [Nat.min_eq_right (by omega)] at hs1
                have hB2 := hid (hfin.out dk (permIn_refl _ _ _) hs1)
                clear hs1
                replace hM := hid hM
                go_wp2
                go_roundg (2 * k + 20 - 2 * bs)
                case measure => omega
                case rel => exact ⟨2 * bs, dk, by simp; omega, by omega, by omega, Nat.le_refl _, hB2, S1⟩
        · have d2 : ¬ (bs : Int) < (k : Int) := by omega
          have hfin := hid (blks_done (by omega) hB.out.2)
          go_wp2
          go_end0
          exact ⟨rfl, dk, ⟨hB.out.1, hfin.out⟩, S1.out⟩
end Go.Proofs.YtflapjehkgefdaaGreat
