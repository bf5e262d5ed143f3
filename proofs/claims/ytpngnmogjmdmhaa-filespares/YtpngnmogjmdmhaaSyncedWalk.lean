/- FileSynced's Go text returns true for any slice of numbers and any two numbers, and turns nothing that was there. -/
import Derived.Test.YtpngnmogjmdmhaaSynBase
import Derived.Test.YtpngnmogjmdmhaaCrashesWalk
import Derived.Test.YtpngnmogjmdmhaaDrawL
namespace Go.Proofs.Ytpngnmogjmdmhaa
open Go.RowKit

structure Sy (w wr : World) (p : Nat) (x : Dx) (d : Dsk) (v : Value) (j : Nat) : Prop where
  sole : Sole w.heap.size wr p x d
  calm : Calm d
  few : d.ops.length ≤ j
  len : ∀ i, i < 3 → (d.cur i).length ≤ 50 * j
  sts : Sts wr w.heap.size v (hist d.ops d.dur)
  off : ∀ k, v.ownBlock = some k → ¬ Turn p x k ∧ ¬ Reads x k
  bel : Below w.heap.size w wr

theorem Sole.besides {S : Nat → Prop} {base : Nat} {w w' : World} {p : Nat} {x : Dx} {d : Dsk} (h : Sole base w p x d) (hk : Kp S w w') (hn : ∀ k, S k → ¬ Turn p x k ∧ ¬ Reads x k) : Sole base w' p x d :=
  ⟨⟨h.is.1.kp hk (fun k e1 e2 => (hn k e2).1 e1) (fun k e1 e2 => (hn k e2).2 e1), h.is.2⟩, h.turn, h.reads, h.inv⟩

theorem off_grow {w : World} {p : Nat} {x x' : Dx} {k : Nat} (hg : Grow w p x x') (hlt : k < w.heap.size) (h : ¬ Turn p x k ∧ ¬ Reads x k) : ¬ Turn p x' k ∧ ¬ Reads x' k := by
  refine ⟨fun e => ?_, fun e => ?_⟩
  · rcases hg.1 k e with h1 | h1
    · exact h.1 h1
    · omega
  · rcases hg.2 k e with h1 | h1
    · exact h.2 h1
    · omega

theorem fcells_now {d : Dsk} (h : d.Inv) : fcells d.cur = fcells (runs d.ops d.dur) := by
  unfold fcells
  rw [h.now 0 (by omega), h.now 1 (by omega), h.now 2 (by omega)]

set_option maxRecDepth 100000 in
set_option maxHeartbeats 8000000 in
theorem synced_any (a : Option Addr) (len cap : Nat) (k0 t0 : Int) (w : World) (hat : IAt w a len) (hlen : len ≤ 140737488355328) :
    Calls Try.prog 6 #[.slice a len cap, .int .i64 k0, .int .i64 t0] w fun e w' => e = .returned (.bool true) ∧ Below w.heap.size w w' := by
  go_enter Try.func6, Try.ntmps6
  go_wp2_with fail
  refine (pick_any k0 50 _ (by decide) (by decide)).mono ?_
  rintro e w0 ⟨⟨keep, hkeep, rfl⟩, rfl⟩
  go_wp2_with fail
  refine (pick_any t0 60 _ (by decide) (by decide)).mono ?_
  rintro e w0' ⟨⟨torn, htorn, rfl⟩, rfl⟩
  go_wp2_with fail
  refine (new_any w0').mono ?_
  rintro e w1 ⟨p, x1, rfl, h1, ht1, hr1, hb1⟩
  have s1 : Sole w0'.heap.size w1 p x1 Dsk.new := ⟨h1, ht1, fun k e => absurd e (hr1 k), Dsk.new_inv⟩
  go_wp2_with fail
  refine (all_sole w0'.heap.size p x1 Dsk.new _ s1 (txt (Dsk.new.cur 0)) (txt (Dsk.new.cur 1)) (txt (Dsk.new.cur 2)) rfl).mono ?_
  rintro e w2 ⟨rfl, hb2⟩
  have s2 := s1.below hb2
  have bl := below_lit w2 (.cells #[.string (txt (Dsk.new.cur 0)), .string (txt (Dsk.new.cur 1)), .string (txt (Dsk.new.cur 2))] 66)
  have c2 : Sy w0' _ p x1 Dsk.new (.slice (some ⟨w2.heap.size, 0, none⟩) 1 1) 0 := ⟨s2.below bl, Calm.new, Nat.le_refl _, (fun i _ => by simp [Dsk.new]), Sts.one w2 w0'.heap.size Dsk.new.cur (Nat.le_trans hb1.size hb2.size), (fun k e => by
    simp only [Value.ownBlock, Option.some.injEq] at e
    subst e
    exact ⟨fun e => by have := s2.is.1.turn_lt _ e; omega, fun e => by have := s2.is.1.reads_lt _ e; omega⟩), bnext (bnext hb1 hb2) bl⟩
  go_wp2_with fail
  generalize w2.alloc (.cells #[.string (txt (Dsk.new.cur 0)), .string (txt (Dsk.new.cur 1)), .string (txt (Dsk.new.cur 2))] 66) = w3 at *
  clear s2 s1 ht1 hr1 h1 bl
  go_loopw [8, 9] (fun v i wr => ∃ (j : Nat) (x : Dx) (d : Dsk), j ≤ len ∧ j ≤ 40 ∧ i = .int .i64 j ∧ Sy w0' wr p x d v j) (fun _ i _ => 40 - (intOf i).toNat)
  case atStart => exact ⟨0, x1, Dsk.new, Nat.zero_le _, Nat.zero_le _, rfl, c2⟩
  case round =>
    obtain ⟨j, x, d, hj1, hj2, rfl, hC⟩ := hrel
    clear c2
    obtain ⟨va, vc, rfl, _⟩ := owns_form hC.sts
    have hvl : (hist d.ops d.dur).length = d.ops.length + 1 := hist_len _ _
    rw [hvl] at hC ⊢
    obtain ⟨-, gs, rfl, -, -⟩ := hC.sts.range (by omega)
    obtain ⟨m1, hm1⟩ : ∃ m1, m1 = d.ops.length := ⟨_, rfl⟩
    rw [← hm1] at hC ⊢
    have hfew : m1 ≤ j := by rw [hm1]; exact hC.few
    replace hm1 := hid hm1
    replace hvl := hid hvl
    by_cases hlt : j < len ∧ j < 40
    · have hd1 : decide ((j : Int) < (len : Int)) = true := decide_eq_true (by omega)
      have hd2 : decide ((j : Int) < 40) = true := decide_eq_true (by omega)
      obtain ⟨b, o, rfl, hcell⟩ := (hat.below hC.bel) (by omega)
      obtain ⟨z, hz⟩ := hcell j hlt.1
      clear hcell
      have hj30 := hlt.2
      have hjl := hlt.1
      clear hlt
      go_wp2_with fail
      refine (pick_any z 1000003 _ (by decide) (by decide)).mono ?_
      rintro e w3 ⟨⟨n, hn, rfl⟩, rfl⟩
      by_cases h9 : (n : Int) % 9 = 0
      · have e9 : ((n : Int) % 9 == 0) = true := by rw [h9]; rfl
        go_wp2_with fail
        refine (sync_sole w0'.heap.size p x d d.sync 0 _ hC.sole hC.bel.size (by have := hC.few; omega) hC.calm.errs hC.calm.syncD).mono ?_
        rintro e w4 ⟨rfl, x4, s4, g4, k4⟩
        go_wp2_with fail
        refine (all_sole w0'.heap.size p x4 d.sync _ s4 (txt (d.cur 0)) (txt (d.cur 1)) (txt (d.cur 2)) hC.calm.sync.val).mono ?_
        rintro e w5 ⟨rfl, hb5⟩
        have bl := below_lit w5 (.cells #[.string (txt (d.cur 0)), .string (txt (d.cur 1)), .string (txt (d.cur 2))] 66)
        have b5 := (hC.bel.trans (k4.below hC.sole.turn hC.bel.size)).trans (hb5.mono (Nat.le_trans hC.bel.size k4.size))
        have hrel : Sy w0' _ p x4 d.sync (.slice (some ⟨w5.heap.size, 0, none⟩) 1 1) (j + 1) := ⟨(s4.below hb5).below bl, hC.calm.sync, Nat.zero_le _, (fun i hi => by have := hC.len i hi; show (d.cur i).length ≤ _; omega), Sts.one w5 w0'.heap.size d.cur b5.size, (fun k e => by
          simp only [Value.ownBlock, Option.some.injEq] at e
          subst e
          have s5 := s4.below hb5
          exact ⟨fun e => by have := s5.is.1.turn_lt _ e; omega, fun e => by have := s5.is.1.reads_lt _ e; omega⟩), bnext b5 bl⟩
        replace hrel := hid hrel
        clear bl b5
        go_wp2
        go_roundw
        case rel => exact ⟨j + 1, x4, d.sync, by omega, by omega, by go_num, hrel.out⟩
        case measure => simp [intOf]; omega
      · have e9 : ((n : Int) % 9 == 0) = false := beq_eq_false_iff_ne.2 h9
        obtain ⟨m, hm, hm2⟩ : ∃ m : Nat, (n : Int) / 9 = m ∧ m ≤ 2000000 := ⟨n / 9, by omega, by omega⟩
        have hca := call_any w0'.heap.size p x d m j _ hC.sole hC.bel.size hC.calm (by have := hC.few; omega) hm2 (by omega) (by omega)
        replace hm := hid hm
        go_wp2_with fail
        rw [hm.out]
        refine hca.mono ?_
        rintro e w4 ⟨rfl, d4, x4, hd4, s4, g4, k4⟩
        obtain ⟨q1, q2, q3⟩ := hC.calm.done hd4
        obtain ⟨c, hd4c, hcf, hcl⟩ := hd4.noted hC.calm (fun i hi => by have := hC.len i hi; omega)
        replace hd4c := hid hd4c
        clear q2
        go_wp2_with fail
        refine (all_sole w0'.heap.size p x4 d4 _ s4 (txt (d4.cur 0)) (txt (d4.cur 1)) (txt (d4.cur 2)) q1.val).mono ?_
        rintro e w5 ⟨rfl, hb5⟩
        have bl := below_lit w5 (.cells #[.string (txt (d4.cur 0)), .string (txt (d4.cur 1)), .string (txt (d4.cur 2))] 66)
        have b5 := (hC.bel.trans (k4.below hC.sole.turn hC.bel.size)).trans (hb5.mono (Nat.le_trans hC.bel.size k4.size))
        have b5' := bnext b5 bl
        have hst4 : Sts _ w0'.heap.size _ _ := owns_below (owns_below (owns_kp hC.sts k4 (fun k e => (hC.off k e).1)) hb5) bl
        have hcat := cat_lit w5 66 (fcells d4.cur) #[.string (txt (d4.cur 0)), .string (txt (d4.cur 1)), .string (txt (d4.cur 2))] rfl
        have s5 := (s4.below hb5).below bl
        have hoff : ∀ k, (Value.slice (some ⟨gs, 0, none⟩) (m1 + 1) vc).ownBlock = some k → ¬ Turn p x4 k ∧ ¬ Reads x4 k := fun k e => off_grow g4 (World.ownsRow.lt hC.sts k e).2 (hC.off k e)
        go_wp2_with (at_builtin; refine wpList_sts _ rfl (.tmp 57) (.tmp 60) rfl w0'.heap.size _ (hist d.ops d.dur) d4.cur rfl hst4 (some ⟨w5.heap.size, 0, none⟩) 1 rfl hcat (by rw [hvl.out, ← hm1.out]; omega) b5'.size ?_; intro v6 w6 ho6 hg6 hbl6)
        have s6 := s5.besides (Kp.grown hg6) hoff
        have hst6 : Sts w6 w0'.heap.size v6 (hist d4.ops d4.dur) := by
          have e1 : hist d4.ops d4.dur = hist d.ops d.dur ++ [runs d4.ops d4.dur] := by
            rw [hd4c.out]
            exact hist_snoc _ _ _
          unfold Sts at ho6 ⊢
          rw [e1, List.length_append, List.flatMap_append]
          rw [List.length_append, List.flatMap_append] at ho6
          simp only [List.flatMap_cons, List.flatMap_nil, List.append_nil, List.length_cons, List.length_nil] at ho6 ⊢
          rw [← fcells_now s4.inv]
          exact ho6
        have b6 := b5'.trans ((Kp.grown hg6).below (fun k e => (World.ownsRow.lt hst4 k e).1) b5'.size)
        have hrel : Sy w0' w6 p x4 d4 v6 (j + 1) := ⟨s6, q1, (by rw [← hm1.out] at q3; omega), (fun i hi => by have := hC.len i hi; have := hcl i; rw [hd4c.out]; show (apply c d.cur i).length ≤ _; omega), hst6, (fun k e => by
          rcases hbl6 with h | h
          · exact hoff k (h ▸ e)
          · rw [h] at e
            cases e
            exact ⟨fun e => by have := s5.is.1.turn_lt _ e; omega, fun e => by have := s5.is.1.reads_lt _ e; omega⟩), b6⟩
        replace hrel := hid hrel
        clear b6 hst6 s6 ho6 hg6 hbl6 hst4 s5 hcat hoff b5' b5 bl
        go_wp2
        go_roundw
        case rel => exact ⟨j + 1, x4, d4, by omega, by omega, by go_num, hrel.out⟩
        case measure => simp [intOf]; omega
    · have hstop : (j < len ∧ j < 40) = False := eq_false hlt
      have s3 := hC.sole
      have b3 := hC.bel
      have ca := hC.calm
      have st3 := hC.sts
      have hoff : ∀ k, (Value.slice (some ⟨gs, 0, none⟩) (m1 + 1) vc).ownBlock = some k → ¬ Turn p x k ∧ ¬ Reads x k := hC.off
      have hln := hC.len
      have hokay : Okay d.ops d.dur := hC.sole.inv.okay
      have hshort := hC.sole.inv.short
      clear hC
      by_cases hl : j < len
      · have hd1 : decide ((j : Int) < (len : Int)) = true := decide_eq_true (by omega)
        have hd2 : decide ((j : Int) < 40) = false := decide_eq_false (by omega)
        go_wp2_with fail
        refine (pending_any p x d _ s3.is).mono ?_
        rintro e w4 ⟨rfl, rfl⟩
        rw [← hm1.out]
        have hcr := crash_sole w0'.heap.size p x d (d.crash keep torn) keep torn 0 _ s3 b3.size (by rw [← hm1.out]; omega) (by unfold Dsk.crashE; rw [if_neg (by omega)]) (by unfold Dsk.crashD; rw [if_neg (by omega)]; rfl)
        go_wp2_with fail
        refine hcr.mono ?_
        rintro e w5 ⟨rfl, x5, s5, g5, k5⟩
        clear hcr
        have v5 := (crash_calm d keep torn).val
        have hfin : ∀ k, k < 3 → (d.crash keep torn).durB (k : Nat) = (d.crash keep torn).cur k := fun k hk => by unfold Dsk.durB; rw [if_neg (by unfold bad; omega)]; rfl
        have hcur : (d.crash keep torn).cur = runs (kept d.ops keep torn) d.dur := rfl
        have hpend : (d.crash keep torn).ops.length = 0 := rfl
        obtain ⟨D, hD⟩ : ∃ D, D = d.crash keep torn := ⟨_, rfl⟩
        rw [← hD] at s5 v5 hfin hcur hpend
        replace hD := hid hD
        obtain ⟨N, hN⟩ : ∃ N, N = D.cur := ⟨_, rfl⟩
        have st5 : Sts w5 w0'.heap.size (.slice (some ⟨gs, 0, none⟩) (m1 + 1) vc) (hist d.ops d.dur) := owns_kp st3 k5 (fun k e => (hoff k e).1)
        have b5 := b3.trans (k5.below s3.turn b3.size)
        rw [← hN] at hfin hcur
        have v5' : D.val = .agg #[.string (txt (N 0)), .string (txt (N 1)), .string (txt (N 2))] := by rw [v5, hN]; rfl
        replace hN := hid hN
        replace hpend := hid hpend
        replace hcur := hid hcur
        replace hfin := hid hfin
        clear v5
        go_wp2_with fail
        refine (all_sole w0'.heap.size p x5 D _ s5 (txt (N 0)) (txt (N 1)) (txt (N 2)) v5').mono ?_
        rintro e w6 ⟨rfl, hb6⟩
        replace v5' := hid v5'
        have bl := below_lit w6 (.cells #[.string (txt (N 0)), .string (txt (N 1)), .string (txt (N 2))] 66)
        have th := tblk_new w6 N
        have s7 := (s5.below hb6).below bl
        have st7 : Sts _ w0'.heap.size _ _ := owns_below (owns_below st5 hb6) bl
        have b7 := bnext (bnext b5 hb6) bl
        obtain ⟨g1, hg1⟩ : ∃ g1, g1 = w6.heap.size := ⟨_, rfl⟩
        rw [← hg1] at th
        have r1 := th.range
        obtain ⟨-, gs', hgs', -, rng⟩ := st7.range (by rw [hvl.out]; omega)
        obtain rfl : gs = gs' := by cases hgs'; rfl
        have zg1 := th.lt
        clear hgs' s5 st5 b5 hb6 st3 s3 hoff bl
        by_cases hk : m1 ≤ keep
        · have hmin : (if m1 < keep then (m1 : Int) else (keep : Int)) = (m1 : Int) := by split <;> omega
          have rA := rng m1 (by rw [hvl.out, ← hm1.out]; omega)
          obtain ⟨A, hA⟩ : ∃ A, A = (hist d.ops d.dur)[m1]'(by rw [hvl.out, ← hm1.out]; omega) := ⟨_, rfl⟩
          rw [← hA] at rA
          have eqA : ∀ i, i < 3 → N i = A i := by
            intro i hi
            have e1 : kept d.ops keep torn = d.ops := by
              unfold kept
              rw [List.drop_eq_nil_of_le (by rw [← hm1.out]; omega)]
            rw [hcur.out, hA, hist_get, e1, List.take_of_length_le (by rw [← hm1.out]; omega)]
          have eqNA : ∀ w, (binOp .eql 66 (tv N) (tv A)).run Try.prog w = .ok (.bool true) w := fun w => by
            rw [eq_tv, decide_eq_true ⟨eqA 0 (by omega), eqA 1 (by omega), eqA 2 (by omega)⟩]
          have hpe : ∀ W, Below (w6.alloc (.cells #[.string (txt (N 0)), .string (txt (N 1)), .string (txt (N 2))] 66)).heap.size (w6.alloc (.cells #[.string (txt (N 0)), .string (txt (N 1)), .string (txt (N 2))] 66)) W → Calls Try.prog 16 #[.pointer (some ⟨p, 0, none⟩)] W fun e w' => e = .returned (.int .i64 0) ∧ w' = W := fun W hb => by
            have := pending_any p x5 D W (s7.below hb).is
            rw [hpend.out] at this
            exact this
          replace hA := hid hA
          clear eqA
          replace rA := hid rA
          replace r1 := hid r1
          go_wp2_with fail
          rw [← hg1]
          replace hg1 := hid hg1
          generalize w6.alloc (.cells #[.string (txt (N 0)), .string (txt (N 1)), .string (txt (N 2))] 66) = w7 at *
          replace rA := rA.out
          replace r1 := r1.out
          refine wp_region_drawn (Rel := fun w w' => Below w.heap.size w w') (Pr := fun i v _ => v = ([tv N, .slice (some ⟨gs, 0, none⟩) (m1 + 1) vc, .int .i64 (m1 : Int), .pointer (some ⟨gs, m1 * 3, none⟩), tv A, .bool true, .bool true, .pointer (some ⟨p, 0, none⟩), .int .i64 0, .bool true, .bool true, .bool true, .bool true, .bool true, .bool true]).getD i undef) (by kernel_rfl) (by kernel_rfl) (drew_below _) bel_tr (fun _ _ _ _ h _ => h) ?_ ?_
          · refine ⟨?_, ?_, ?_, ?_, ?_, ?_, ?_, ?_, ?_, ?_, ?_, ?_, ?_, ?_, ?_, trivial⟩
            · exact fun a w hR hd hk K hK => yes (want_n rfl) (wp_ld66 11 g1 0 N (get_keep (hk 11 (no_dst (by kernel_rfl))) rfl) (range_below r1 hR) (hK _ w rfl (Below.refl _ _)))
            · exact fun a w hR hd hk K hK => yes (want_n rfl) (wp_mv _ rfl _ (get_keep (hk 8 (no_dst (by kernel_rfl))) rfl) (hK _ w rfl (Below.refl _ _)))
            · exact fun a w hR hd hk K hK => yes (want_n rfl) (wp_mv _ rfl _ (get_keep (hk 12 (no_dst (by kernel_rfl))) rfl) (hK _ w rfl (Below.refl _ _)))
            · exact fun a w hR hd hk K hK => yes (want_n rfl) (wp_idx68 88 89 gs (m1 + 1) vc m1 (hd 1 _ 88 rfl rfl rfl) (hd 2 _ 89 rfl rfl rfl) (by omega) (hK _ w rfl (Below.refl _ _)))
            · exact fun a w hR hd hk K hK => yes (want_n rfl) (wp_ld66 90 gs (m1 * 3) A (hd 3 _ 90 rfl rfl rfl) (range_below rA hR) (hK _ w rfl (Below.refl _ _)))
            · exact fun a w hR hd hk K hK => yes (want_n rfl) (wp_bin _ _ _ _ _ rfl _ _ _ (hd 0 _ 87 rfl rfl rfl) (hd 4 _ 91 rfl rfl rfl) rfl (eqNA w) (hK _ w rfl (Below.refl _ _)))
            · exact fun a w hR hd hk K hK => yes (want_n rfl) (wp_mv _ rfl _ (hd 5 _ 92 rfl rfl rfl) (hK _ w rfl (Below.refl _ _)))
            · exact fun a w hR hd hk K hK => yes (want_g rfl rfl (hd 6 _ 93 rfl rfl rfl)) (wp_mv _ rfl _ (get_keep (hk 7 (no_dst (by kernel_rfl))) rfl) (hK _ w rfl (Below.refl _ _)))
            · exact fun a w hR hd hk K hK => yes (want_g rfl rfl (hd 6 _ 93 rfl rfl rfl)) (wp_callv 16 _ _ rfl _ Try.func16 rfl rfl _ (args1 (hd 7 _ 94 rfl rfl rfl)) (hpe w hR) (by rintro e w' ⟨rfl, rfl⟩; exact ⟨_, rfl, hK _ w' rfl (Below.refl _ _)⟩))
            · exact fun a w hR hd hk K hK => yes (want_g rfl rfl (hd 6 _ 93 rfl rfl rfl)) (wp_bin _ _ _ _ _ rfl _ _ _ (hd 8 _ 95 rfl rfl rfl) rfl rfl (eql_same w 0) (hK _ w rfl (Below.refl _ _)))
            · exact fun a w hR hd hk K hK => yes (want_n rfl) (wp_pick _ _ _ rfl true _ (hd 6 _ 93 rfl rfl rfl) (hd 9 _ 96 rfl rfl rfl) (hK _ w rfl (Below.refl _ _)))
            · exact fun a w hR hd hk K hK => yes (want_n rfl) (wp_mv _ rfl _ (hd 10 _ 97 rfl rfl rfl) (hK _ w rfl (Below.refl _ _)))
            · exact fun a w hR hd hk K hK => yes (want_g rfl rfl (hd 11 _ 98 rfl rfl rfl)) (wp_callv 20 _ _ rfl _ Try.func20 rfl rfl #[] args0 (awake_any w) (by rintro e w' ⟨rfl, hb⟩; exact ⟨_, rfl, hK _ w' rfl hb⟩))
            · exact fun a w hR hd hk K hK => yes (want_n rfl) (wp_pick _ _ _ rfl true _ (hd 11 _ 98 rfl rfl rfl) (hd 12 _ 99 rfl rfl rfl) (hK _ w rfl (Below.refl _ _)))
            · exact fun a w hR hd hk K hK => yes (want_n rfl) (wp_as _ rfl _ (hd 13 _ 100 rfl rfl rfl) (hK _ w rfl (Below.refl _ _)))
          · intro a w8 hdf hsz hkp hval hRw
            obtain ⟨f, hf⟩ : ∃ f, f = fun d => a.tmps.getD d undef := ⟨_, rfl⟩
            have h6 : f 6 = .bool true := by rw [hf]; exact hval 14 _ 6 rfl rfl
            have hfa := act_filled hdf hsz hkp
            rw [← hf] at hfa
            rw [hfa]
            clear hdf hsz hkp hval hfa hf
            clear a
            simp only [fillAll, List.set_cons_zero, List.set_cons_succ, h6]
            clear h6
            have b8 := bnext b7 hRw
            go_wp2
            go_ret
            exact ⟨rfl, b8⟩
        · have hmin : (if m1 < keep then (m1 : Int) else (keep : Int)) = (keep : Int) := by split <;> omega
          have hkm : ((keep : Int) == (m1 : Int)) = false := beq_eq_false_iff_ne.2 (by omega)
          have hK : keep < d.ops.length := by rw [← hm1.out]; omega
          obtain ⟨c, hc1, hcf, hc2⟩ := crash_part d.ops d.dur keep torn hK
          have hcf3 : c.file < 3 := by rw [hcf]; exact okay_file hokay keep hK
          have rA := rng keep (by rw [hvl.out]; omega)
          have rB := rng (keep + 1) (by rw [hvl.out]; omega)
          rw [hist_get] at rA rB
          have lA := (hokay.take keep).short hshort
          have lB := (hokay.take (keep + 1)).short hshort
          rw [hc1] at rB lB
          rw [← hcur.out] at hc2
          obtain ⟨A, hA⟩ : ∃ A, A = runs (d.ops.take keep) d.dur := ⟨_, rfl⟩
          rw [← hA] at rA rB hc2 lA lB
          obtain ⟨B, hB⟩ : ∃ B, B = apply c A := ⟨_, rfl⟩
          rw [← hB] at rB lB
          clear hc1 hcf hA rng
          replace hB := hid hB
          replace hc2 := hid hc2
          replace rA := hid rA
          replace rB := hid rB
          replace r1 := hid r1
          go_wp2_with fail
          rw [← hg1]
          replace hg1 := hid hg1
          generalize w6.alloc (.cells #[.string (txt (N 0)), .string (txt (N 1)), .string (txt (N 2))] 66) = w7 at *
          replace rA := rA.out
          replace rB := rB.out
          replace r1 := r1.out
          refine wp_region_drawn (Rel := fun w w' => Below w.heap.size w w') (Pr := fun i v _ => v = ([tv N, .slice (some ⟨gs, 0, none⟩) (m1 + 1) vc, .int .i64 (keep : Int), .pointer (some ⟨gs, keep * 3, none⟩), tv A, .bool (decide (N 0 = A 0 ∧ N 1 = A 1 ∧ N 2 = A 2)), .bool (decide (N 0 = A 0 ∧ N 1 = A 1 ∧ N 2 = A 2))]).getD i undef) (by kernel_rfl) (by kernel_rfl) (drew_below _) bel_tr (fun _ _ _ _ h _ => h) ?_ ?_
          · refine ⟨?_, ?_, ?_, ?_, ?_, ?_, ?_, trivial⟩
            · exact fun a w hR hd hk K hK => yes (want_n rfl) (wp_ld66 11 g1 0 N (get_keep (hk 11 (no_dst (by kernel_rfl))) rfl) (range_below r1 hR) (hK _ w rfl (Below.refl _ _)))
            · exact fun a w hR hd hk K hK => yes (want_n rfl) (wp_mv _ rfl _ (get_keep (hk 8 (no_dst (by kernel_rfl))) rfl) (hK _ w rfl (Below.refl _ _)))
            · exact fun a w hR hd hk K hK => yes (want_n rfl) (wp_mv _ rfl _ (get_keep (hk 12 (no_dst (by kernel_rfl))) rfl) (hK _ w rfl (Below.refl _ _)))
            · exact fun a w hR hd hk K hK => yes (want_n rfl) (wp_idx68 102 103 gs (m1 + 1) vc keep (hd 1 _ 102 rfl rfl rfl) (hd 2 _ 103 rfl rfl rfl) (by omega) (hK _ w rfl (Below.refl _ _)))
            · exact fun a w hR hd hk K hK => yes (want_n rfl) (wp_ld66 104 gs (keep * 3) A (hd 3 _ 104 rfl rfl rfl) (range_below rA hR) (hK _ w rfl (Below.refl _ _)))
            · exact fun a w hR hd hk K hK => yes (want_n rfl) (wp_bin _ _ _ _ _ rfl _ _ _ (hd 0 _ 101 rfl rfl rfl) (hd 4 _ 105 rfl rfl rfl) rfl (eq_tv w N A) (hK _ w rfl (Below.refl _ _)))
            · exact fun a w hR hd hk K hK => yes (want_n rfl) (wp_as _ rfl _ (hd 5 _ 106 rfl rfl rfl) (hK _ w rfl (Below.refl _ _)))
          · intro a w8 hdf hsz hkp hval hRw
            obtain ⟨f, hf⟩ : ∃ f, f = fun d => a.tmps.getD d undef := ⟨_, rfl⟩
            have h13 : f 13 = .bool (decide (N 0 = A 0 ∧ N 1 = A 1 ∧ N 2 = A 2)) := by rw [hf]; exact hval 6 _ 13 rfl rfl
            have hfa := act_filled hdf hsz hkp
            rw [← hf] at hfa
            rw [hfa]
            clear hdf hsz hkp hval hfa hf
            clear a
            simp only [fillAll, List.set_cons_zero, List.set_cons_succ, h13]
            clear h13
            replace rA := range_below rA hRw
            replace rB := range_below rB hRw
            replace r1 := range_below r1 hRw
            replace s7 := s7.below hRw
            replace b7 := bnext b7 hRw
            replace zg1 := Nat.lt_of_lt_of_le zg1 hRw.size
            have hst : decide (N 0 = A 0 ∧ N 1 = A 1 ∧ N 2 = A 2) = false → c.app = true ∧ c.data.take torn ≠ [] := by
              intro h
              have h := of_decide_eq_false h
              rcases hc2.out with ⟨_, e⟩ | ⟨ha, e⟩
              · exact absurd (by rw [e]; exact ⟨rfl, rfl, rfl⟩) h
              · refine ⟨ha, fun e2 => h ?_⟩
                have e3 : N = A := by
                  rw [e]
                  funext i
                  unfold apply Ch.on
                  split
                  · simp [e2]
                  · rfl
                rw [e3]
                exact ⟨rfl, rfl, rfl⟩
            generalize decide (N 0 = A 0 ∧ N 1 = A 1 ∧ N 2 = A 2) = pb0 at *
            go_wp2_with fail
            go_loopw [13, 14] (fun b i wr => ∃ (j : Nat) (pb : Bool), j ≤ 3 ∧ i = .int .i64 j ∧ b = .bool pb ∧ (pb = false → c.app = true ∧ c.data.take torn ≠ [] ∧ j ≤ c.file) ∧ Below w8.heap.size w8 wr) (fun _ i _ => 3 - (intOf i).toNat)
            case atStart => exact ⟨0, pb0, by omega, rfl, rfl, fun h => ⟨(hst h).1, (hst h).2, Nat.zero_le _⟩, Below.refl _ _⟩
            case round =>
              clear hst
              obtain ⟨j, pb, hj3', rfl, rfl, hpb, hbr⟩ := hrel
              cases pb with
              | true =>
                clear hpb
                have qN := range_below r1 hbr
                have s8 := s7.below hbr
                have b8 := bnext b7 hbr
                by_cases hj4 : j < 3
                · go_wp2_with fail
                  go_loopw [13, 17] (fun b i wz => ∃ j : Nat, j ≤ 3 ∧ i = .int .i64 j ∧ b = .bool true ∧ Below wr.heap.size wr wz) (fun _ i _ => 3 - (intOf i).toNat)
                  case atStart => exact ⟨0, by omega, rfl, rfl, Below.refl _ _⟩
                  case round =>
                    obtain ⟨j, hj3', rfl, rfl, hbr3⟩ := hrel
                    by_cases hj3 : j < 3
                    · obtain ⟨rn, hrn⟩ : ∃ rn, (N j).length = rn := ⟨_, rfl⟩
                      have hdu := durable_sole w0'.heap.size p x5 D j 0 (N j) rn _ (s8.below hbr3) (by unfold Dsk.durE; rw [if_neg (by unfold bad; omega)]) (hfin.out j hj3) hrn
                      replace hrn := hid hrn
                      go_wp2_with fail
                      refine hdu.mono ?_
                      rintro e w10 ⟨ra, rc, rfl, ho, hb10⟩
                      have r1 := range_below (range_below qN hbr3) hb10
                      have hra := ho.at
                      have b10 := bnext hbr3 hb10
                      replace r1 := hid r1
                      clear hdu ho
                      replace hra := hid hra
                      go_wp2_with fail
                      replace r1 := r1.out
                      replace hra := hra.out
                      replace hrn := hrn.out
                      refine wp_region_drawnL (Rel := fun w w' => Below w.heap.size w w') (Pr := fun i v _ => v = ([.bool true, .bool true, .int .i64 0, .bool true, .bool true, .bool true, .slice ra rn rc, .string (txt (N j)), .int .i64 (j : Int), .pointer (some ⟨g1, 0 + j, none⟩), .string (txt (N j)), .bool true, .bool true, .bool true]).getD i undef) (by kernel_rfl) (by kernel_rfl) (drew_below _) bel_tr (fun _ _ _ _ h _ => h) ?_ ?_
                      · refine ⟨?_, ?_, ?_, ?_, ?_, ?_, ?_, ?_, ?_, ?_, ?_, ?_, ?_, ?_, trivial⟩
                        · exact fun a w hR hd hk hl K hK => yes (want_n rfl) (wp_mv _ rfl _ (get_keep (hl 13 _ 13 rfl rfl rfl) rfl) (hK _ w rfl (Below.refl _ _)))
                        · exact fun a w hR hd hk hl K hK => yes (want_n rfl) (wp_mv _ rfl _ (hd 0 _ 171 rfl rfl rfl) (hK _ w rfl (Below.refl _ _)))
                        · exact fun a w hR hd hk hl K hK => yes (want_g rfl rfl (hd 1 _ 172 rfl rfl rfl)) (wp_mv _ rfl _ (get_keep (hk 19 (no_dst (by kernel_rfl))) rfl) (hK _ w rfl (Below.refl _ _)))
                        · exact fun a w hR hd hk hl K hK => yes (want_g rfl rfl (hd 1 _ 172 rfl rfl rfl)) (wp_bin _ _ _ _ _ rfl _ _ _ (hd 2 _ 173 rfl rfl rfl) rfl rfl (eql00 w) (hK _ w rfl (Below.refl _ _)))
                        · exact fun a w hR hd hk hl K hK => yes (want_n rfl) (wp_pick _ _ _ rfl true _ (hd 1 _ 172 rfl rfl rfl) (hd 3 _ 174 rfl rfl rfl) (hK _ w rfl (Below.refl _ _)))
                        · exact fun a w hR hd hk hl K hK => yes (want_n rfl) (wp_mv _ rfl _ (hd 4 _ 175 rfl rfl rfl) (hK _ w rfl (Below.refl _ _)))
                        · exact fun a w hR hd hk hl K hK => yes (want_g rfl rfl (hd 5 _ 176 rfl rfl rfl)) (wp_mv _ rfl _ (get_keep (hk 18 (no_dst (by kernel_rfl))) rfl) (hK _ w rfl (Below.refl _ _)))
                        · exact fun a w hR hd hk hl K hK => yes (want_g rfl rfl (hd 5 _ 176 rfl rfl rfl)) (wp_conv9 177 rn rc ra (N j) hrn (hra.below hR) (hd 6 _ 177 rfl rfl rfl) (hK _ w rfl (Below.refl _ _)))
                        · exact fun a w hR hd hk hl K hK => yes (want_g rfl rfl (hd 5 _ 176 rfl rfl rfl)) (wp_mv _ rfl _ (get_keep (hk 17 (no_dst (by kernel_rfl))) rfl) (hK _ w rfl (Below.refl _ _)))
                        · exact fun a w hR hd hk hl K hK => yes (want_g rfl rfl (hd 5 _ 176 rfl rfl rfl)) (wp_idx66 11 179 g1 0 j (get_keep (hk 11 (no_dst (by kernel_rfl))) rfl) (hd 8 _ 179 rfl rfl rfl) hj3 (hK _ w rfl (Below.refl _ _)))
                        · exact fun a w hR hd hk hl K hK => yes (want_g rfl rfl (hd 5 _ 176 rfl rfl rfl)) (wp_ld9 180 ⟨g1, 0 + j, none⟩ (txt (N j)) (hd 9 _ 180 rfl rfl rfl) (range_below r1 hR j _ (fcells_get N j hj3)) (hK _ w rfl (Below.refl _ _)))
                        · exact fun a w hR hd hk hl K hK => yes (want_g rfl rfl (hd 5 _ 176 rfl rfl rfl)) (wp_bin _ _ _ _ _ rfl _ _ _ (hd 7 _ 178 rfl rfl rfl) (hd 10 _ 181 rfl rfl rfl) rfl (eql_txt w _) (hK _ w rfl (Below.refl _ _)))
                        · exact fun a w hR hd hk hl K hK => yes (want_n rfl) (wp_pick _ _ _ rfl true _ (hd 5 _ 176 rfl rfl rfl) (hd 11 _ 182 rfl rfl rfl) (hK _ w rfl (Below.refl _ _)))
                        · exact fun a w hR hd hk hl K hK => yes (want_n rfl) (wp_as _ rfl _ (hd 12 _ 183 rfl rfl rfl) (hK _ w rfl (Below.refl _ _)))
                      · intro a w11 hdf hsz hkp hval hRw
                        obtain ⟨f, hf⟩ : ∃ f, f = fun d => a.tmps.getD d undef := ⟨_, rfl⟩
                        have h13 : f 13 = .bool true := by rw [hf]; exact hval 13 _ 13 rfl rfl
                        have hfa := act_filled hdf hsz hkp
                        rw [← hf] at hfa
                        rw [hfa]
                        clear hdf hsz hkp hval hfa hf
                        clear a
                        simp only [fillAll, List.set_cons_zero, List.set_cons_succ, h13]
                        clear h13
                        have b11 := bnext b10 hRw
                        clear hra r1 b10 hRw
                        replace hrn := hid hrn
                        go_wp2
                        go_roundw
                        case rel => exact ⟨j + 1, by omega, by go_num, rfl, b11⟩
                        case measure => simp [intOf]; omega
                    · obtain rfl : j = 3 := by omega
                      go_wp2_with fail
                      refine (awake_any _).mono ?_
                      rintro e w12 ⟨rfl, hb12⟩
                      go_wp2
                      go_ret
                      exact ⟨rfl, bnext (bnext b8 hbr3) hb12⟩
                · go_wp2_with fail
                  go_loopw [13, 17] (fun b i wz => ∃ j : Nat, j ≤ 3 ∧ i = .int .i64 j ∧ b = .bool true ∧ Below wr.heap.size wr wz) (fun _ i _ => 3 - (intOf i).toNat)
                  case atStart => exact ⟨0, by omega, rfl, rfl, Below.refl _ _⟩
                  case round =>
                    obtain ⟨j, hj3', rfl, rfl, hbr3⟩ := hrel
                    by_cases hj3 : j < 3
                    · obtain ⟨rn, hrn⟩ : ∃ rn, (N j).length = rn := ⟨_, rfl⟩
                      have hdu := durable_sole w0'.heap.size p x5 D j 0 (N j) rn _ (s8.below hbr3) (by unfold Dsk.durE; rw [if_neg (by unfold bad; omega)]) (hfin.out j hj3) hrn
                      replace hrn := hid hrn
                      go_wp2_with fail
                      refine hdu.mono ?_
                      rintro e w10 ⟨ra, rc, rfl, ho, hb10⟩
                      have r1 := range_below (range_below qN hbr3) hb10
                      have hra := ho.at
                      have b10 := bnext hbr3 hb10
                      replace r1 := hid r1
                      clear hdu ho
                      replace hra := hid hra
                      go_wp2_with fail
                      replace r1 := r1.out
                      replace hra := hra.out
                      replace hrn := hrn.out
                      refine wp_region_drawnL (Rel := fun w w' => Below w.heap.size w w') (Pr := fun i v _ => v = ([.bool true, .bool true, .int .i64 0, .bool true, .bool true, .bool true, .slice ra rn rc, .string (txt (N j)), .int .i64 (j : Int), .pointer (some ⟨g1, 0 + j, none⟩), .string (txt (N j)), .bool true, .bool true, .bool true]).getD i undef) (by kernel_rfl) (by kernel_rfl) (drew_below _) bel_tr (fun _ _ _ _ h _ => h) ?_ ?_
                      · refine ⟨?_, ?_, ?_, ?_, ?_, ?_, ?_, ?_, ?_, ?_, ?_, ?_, ?_, ?_, trivial⟩
                        · exact fun a w hR hd hk hl K hK => yes (want_n rfl) (wp_mv _ rfl _ (get_keep (hl 13 _ 13 rfl rfl rfl) rfl) (hK _ w rfl (Below.refl _ _)))
                        · exact fun a w hR hd hk hl K hK => yes (want_n rfl) (wp_mv _ rfl _ (hd 0 _ 171 rfl rfl rfl) (hK _ w rfl (Below.refl _ _)))
                        · exact fun a w hR hd hk hl K hK => yes (want_g rfl rfl (hd 1 _ 172 rfl rfl rfl)) (wp_mv _ rfl _ (get_keep (hk 19 (no_dst (by kernel_rfl))) rfl) (hK _ w rfl (Below.refl _ _)))
                        · exact fun a w hR hd hk hl K hK => yes (want_g rfl rfl (hd 1 _ 172 rfl rfl rfl)) (wp_bin _ _ _ _ _ rfl _ _ _ (hd 2 _ 173 rfl rfl rfl) rfl rfl (eql00 w) (hK _ w rfl (Below.refl _ _)))
                        · exact fun a w hR hd hk hl K hK => yes (want_n rfl) (wp_pick _ _ _ rfl true _ (hd 1 _ 172 rfl rfl rfl) (hd 3 _ 174 rfl rfl rfl) (hK _ w rfl (Below.refl _ _)))
                        · exact fun a w hR hd hk hl K hK => yes (want_n rfl) (wp_mv _ rfl _ (hd 4 _ 175 rfl rfl rfl) (hK _ w rfl (Below.refl _ _)))
                        · exact fun a w hR hd hk hl K hK => yes (want_g rfl rfl (hd 5 _ 176 rfl rfl rfl)) (wp_mv _ rfl _ (get_keep (hk 18 (no_dst (by kernel_rfl))) rfl) (hK _ w rfl (Below.refl _ _)))
                        · exact fun a w hR hd hk hl K hK => yes (want_g rfl rfl (hd 5 _ 176 rfl rfl rfl)) (wp_conv9 177 rn rc ra (N j) hrn (hra.below hR) (hd 6 _ 177 rfl rfl rfl) (hK _ w rfl (Below.refl _ _)))
                        · exact fun a w hR hd hk hl K hK => yes (want_g rfl rfl (hd 5 _ 176 rfl rfl rfl)) (wp_mv _ rfl _ (get_keep (hk 17 (no_dst (by kernel_rfl))) rfl) (hK _ w rfl (Below.refl _ _)))
                        · exact fun a w hR hd hk hl K hK => yes (want_g rfl rfl (hd 5 _ 176 rfl rfl rfl)) (wp_idx66 11 179 g1 0 j (get_keep (hk 11 (no_dst (by kernel_rfl))) rfl) (hd 8 _ 179 rfl rfl rfl) hj3 (hK _ w rfl (Below.refl _ _)))
                        · exact fun a w hR hd hk hl K hK => yes (want_g rfl rfl (hd 5 _ 176 rfl rfl rfl)) (wp_ld9 180 ⟨g1, 0 + j, none⟩ (txt (N j)) (hd 9 _ 180 rfl rfl rfl) (range_below r1 hR j _ (fcells_get N j hj3)) (hK _ w rfl (Below.refl _ _)))
                        · exact fun a w hR hd hk hl K hK => yes (want_g rfl rfl (hd 5 _ 176 rfl rfl rfl)) (wp_bin _ _ _ _ _ rfl _ _ _ (hd 7 _ 178 rfl rfl rfl) (hd 10 _ 181 rfl rfl rfl) rfl (eql_txt w _) (hK _ w rfl (Below.refl _ _)))
                        · exact fun a w hR hd hk hl K hK => yes (want_n rfl) (wp_pick _ _ _ rfl true _ (hd 5 _ 176 rfl rfl rfl) (hd 11 _ 182 rfl rfl rfl) (hK _ w rfl (Below.refl _ _)))
                        · exact fun a w hR hd hk hl K hK => yes (want_n rfl) (wp_as _ rfl _ (hd 12 _ 183 rfl rfl rfl) (hK _ w rfl (Below.refl _ _)))
                      · intro a w11 hdf hsz hkp hval hRw
                        obtain ⟨f, hf⟩ : ∃ f, f = fun d => a.tmps.getD d undef := ⟨_, rfl⟩
                        have h13 : f 13 = .bool true := by rw [hf]; exact hval 13 _ 13 rfl rfl
                        have hfa := act_filled hdf hsz hkp
                        rw [← hf] at hfa
                        rw [hfa]
                        clear hdf hsz hkp hval hfa hf
                        clear a
                        simp only [fillAll, List.set_cons_zero, List.set_cons_succ, h13]
                        clear h13
                        have b11 := bnext b10 hRw
                        clear hra r1 b10 hRw
                        replace hrn := hid hrn
                        go_wp2
                        go_roundw
                        case rel => exact ⟨j + 1, by omega, by go_num, rfl, b11⟩
                        case measure => simp [intOf]; omega
                    · obtain rfl : j = 3 := by omega
                      go_wp2_with fail
                      refine (awake_any _).mono ?_
                      rintro e w12 ⟨rfl, hb12⟩
                      go_wp2
                      go_ret
                      exact ⟨rfl, bnext (bnext b8 hbr3) hb12⟩
              | false =>
                obtain ⟨hap, hdt, hjc⟩ := hpb rfl
                clear hpb
                have hj3 : j < 3 := by omega
                have qA := range_below rA hbr
                have y0 := qA 0 _ rfl
                have y1 := qA 1 _ rfl
                have y2 := qA 2 _ rfl
                rw [Nat.add_zero] at y0
                have bl := below_lit wr (.cells #[.string (txt (A 0)), .string (txt (A 1)), .string (txt (A 2))] 66)
                have rX := (tblk_new wr A).range
                have rBx := range_below (range_below rB hbr) bl
                have bx := bnext hbr bl
                obtain ⟨gx, hgx⟩ : ∃ gx, gx = wr.heap.size := ⟨_, rfl⟩
                rw [← hgx] at rX
                replace rX := hid rX
                replace rBx := hid rBx
                replace qA := hid qA
                go_wp2_with fail
                rw [← hgx]
                replace hgx := hid hgx
                have hfx := (tblk_new wr A)
                rw [← hgx.out] at hfx
                generalize wr.alloc (.cells #[.string (txt (A 0)), .string (txt (A 1)), .string (txt (A 2))] 66) = wx at *
                replace rX := rX.out
                have rB := rBx.out
                have lAj := lA j hj3
                have lBj := lB j hj3
                rw [← txt_size] at lAj lBj
                clear y0 y1 y2 bl
                refine wp_region_drawn (Rel := fun w w' => Below w.heap.size w w') (Pr := fun i v _ => v = ([.int .i64 (j : Int), .pointer (some ⟨gx, 0 + j, none⟩), .string (txt (A j)), .int .i64 ((txt (A j)).size : Int), .int .i64 (torn : Int), .int .i64 (((txt (A j)).size + torn : Nat) : Int), .slice (some ⟨gs, 0, none⟩) (m1 + 1) vc, .int .i64 (keep : Int), .int .i64 ((keep + 1 : Nat) : Int), .int .i64 (j : Int), .pointer (some ⟨gs, (keep + 1) * 3, none⟩), .pointer (some ⟨gs, (keep + 1) * 3 + j, none⟩), .string (txt (B j)), .int .i64 ((txt (B j)).size : Int), .int .i64 ((min ((txt (A j)).size + torn) (txt (B j)).size : Nat) : Int), .int .i64 ((min ((txt (A j)).size + torn) (txt (B j)).size : Nat) : Int)]).getD i undef) (by kernel_rfl) (by kernel_rfl) (drew_below _) bel_tr (fun _ _ _ _ h _ => h) ?_ ?_
                · refine ⟨?_, ?_, ?_, ?_, ?_, ?_, ?_, ?_, ?_, ?_, ?_, ?_, ?_, ?_, ?_, ?_, trivial⟩
                  · exact fun a w hR hd hk K hK => yes (want_n rfl) (wp_mv _ rfl _ (get_keep (hk 14 (no_dst (by kernel_rfl))) rfl) (hK _ w rfl (Below.refl _ _)))
                  · exact fun a w hR hd hk K hK => yes (want_n rfl) (wp_idx66 15 119 gx 0 j (get_keep (hk 15 (no_dst (by kernel_rfl))) rfl) (hd 0 _ 119 rfl rfl rfl) hj3 (hK _ w rfl (Below.refl _ _)))
                  · exact fun a w hR hd hk K hK => yes (want_n rfl) (wp_ld9 120 ⟨gx, 0 + j, none⟩ (txt (A j)) (hd 1 _ 120 rfl rfl rfl) (range_below rX hR j _ (fcells_get A j hj3)) (hK _ w rfl (Below.refl _ _)))
                  · exact fun a w hR hd hk K hK => yes (want_n rfl) (wp_len9 121 (txt (A j)) (hd 2 _ 121 rfl rfl rfl) (hK _ w rfl (Below.refl _ _)))
                  · exact fun a w hR hd hk K hK => yes (want_n rfl) (wp_mv _ rfl _ (get_keep (hk 2 (no_dst (by kernel_rfl))) rfl) (hK _ w rfl (Below.refl _ _)))
                  · exact fun a w hR hd hk K hK => yes (want_n rfl) (wp_bin _ _ _ _ _ rfl _ _ _ (hd 3 _ 122 rfl rfl rfl) (hd 4 _ 123 rfl rfl rfl) rfl (add_nat w _ _ (by omega)) (hK _ w rfl (Below.refl _ _)))
                  · exact fun a w hR hd hk K hK => yes (want_n rfl) (wp_mv _ rfl _ (get_keep (hk 8 (no_dst (by kernel_rfl))) rfl) (hK _ w rfl (Below.refl _ _)))
                  · exact fun a w hR hd hk K hK => yes (want_n rfl) (wp_mv _ rfl _ (get_keep (hk 12 (no_dst (by kernel_rfl))) rfl) (hK _ w rfl (Below.refl _ _)))
                  · exact fun a w hR hd hk K hK => yes (want_n rfl) (wp_bin _ _ _ _ _ rfl _ _ _ (hd 7 _ 126 rfl rfl rfl) rfl rfl (add_nat w keep 1 (by omega)) (hK _ w rfl (Below.refl _ _)))
                  · exact fun a w hR hd hk K hK => yes (want_n rfl) (wp_mv _ rfl _ (get_keep (hk 14 (no_dst (by kernel_rfl))) rfl) (hK _ w rfl (Below.refl _ _)))
                  · exact fun a w hR hd hk K hK => yes (want_n rfl) (wp_idx68 125 127 gs (m1 + 1) vc (keep + 1) (hd 6 _ 125 rfl rfl rfl) (hd 8 _ 127 rfl rfl rfl) (by omega) (hK _ w rfl (Below.refl _ _)))
                  · exact fun a w hR hd hk K hK => yes (want_n rfl) (wp_idx66 129 128 gs ((keep + 1) * 3) j (hd 10 _ 129 rfl rfl rfl) (hd 9 _ 128 rfl rfl rfl) hj3 (hK _ w rfl (Below.refl _ _)))
                  · exact fun a w hR hd hk K hK => yes (want_n rfl) (wp_ld9 130 ⟨gs, (keep + 1) * 3 + j, none⟩ (txt (B j)) (hd 11 _ 130 rfl rfl rfl) (range_below rB hR j _ (fcells_get B j hj3)) (hK _ w rfl (Below.refl _ _)))
                  · exact fun a w hR hd hk K hK => yes (want_n rfl) (wp_len9 131 (txt (B j)) (hd 12 _ 131 rfl rfl rfl) (hK _ w rfl (Below.refl _ _)))
                  · exact fun a w hR hd hk K hK => yes (want_n rfl) (wp_min 124 132 ((txt (A j)).size + torn) (txt (B j)).size (hd 5 _ 124 rfl rfl rfl) (hd 13 _ 132 rfl rfl rfl) (hK _ w rfl (Below.refl _ _)))
                  · exact fun a w hR hd hk K hK => yes (want_n rfl) (wp_as _ rfl _ (hd 14 _ 133 rfl rfl rfl) (hK _ w rfl (Below.refl _ _)))
                · intro a wy hdf hsz hkp hval hRw
                  obtain ⟨f, hf⟩ : ∃ f, f = fun d => a.tmps.getD d undef := ⟨_, rfl⟩
                  have h16 : f 16 = .int .i64 ((min ((txt (A j)).size + torn) (txt (B j)).size : Nat) : Int) := by rw [hf]; exact hval 15 _ 16 rfl rfl
                  have hfa := act_filled hdf hsz hkp
                  rw [← hf] at hfa
                  rw [hfa]
                  clear hdf hsz hkp hval hfa hf
                  clear a
                  simp only [fillAll, List.set_cons_zero, List.set_cons_succ, h16]
                  clear h16
                  have rB2 := range_below rB hRw
                  have rX2 := range_below rX hRw
                  replace hfx := hfx.below hRw
                  have by1 := bnext bx hRw
                  clear rB rX hRw bx
                  generalize hnn : min ((txt (A j)).size + torn) (txt (B j)).size = nn
                  replace hnn := hid hnn
                  replace rB2 := hid rB2
                  replace rX2 := hid rX2
                  replace hfx := hid hfx
                  go_wp2_with fail
                  replace hfx := hfx.out
                  replace rB2 := rB2.out
                  replace rX2 := rX2.out
                  refine wp_region_drawn (Rel := fun w w' => Below w.heap.size w w') (Pr := fun i v _ => v = ([.slice (some ⟨gs, 0, none⟩) (m1 + 1) vc, .int .i64 (keep : Int), .int .i64 ((keep + 1 : Nat) : Int), .int .i64 (j : Int), .pointer (some ⟨gs, (keep + 1) * 3, none⟩), .pointer (some ⟨gs, (keep + 1) * 3 + j, none⟩), .string (txt (B j)), .int .i64 ((txt (B j)).size : Int), .int .i64 (j : Int), .pointer (some ⟨gx, 0 + j, none⟩), .string (txt (A j)), .int .i64 ((txt (A j)).size : Int), .bool (decide ((txt (A j)).size < (txt (B j)).size))]).getD i undef) (by kernel_rfl) (by kernel_rfl) (drew_below _) bel_tr (fun _ _ _ _ h _ => h) ?_ ?_
                  · refine ⟨?_, ?_, ?_, ?_, ?_, ?_, ?_, ?_, ?_, ?_, ?_, ?_, ?_, trivial⟩
                    · exact fun a w hR hd hk K hK => yes (want_n rfl) (wp_mv _ rfl _ (get_keep (hk 8 (no_dst (by kernel_rfl))) rfl) (hK _ w rfl (Below.refl _ _)))
                    · exact fun a w hR hd hk K hK => yes (want_n rfl) (wp_mv _ rfl _ (get_keep (hk 12 (no_dst (by kernel_rfl))) rfl) (hK _ w rfl (Below.refl _ _)))
                    · exact fun a w hR hd hk K hK => yes (want_n rfl) (wp_bin _ _ _ _ _ rfl _ _ _ (hd 1 _ 135 rfl rfl rfl) rfl rfl (add_nat w keep 1 (by omega)) (hK _ w rfl (Below.refl _ _)))
                    · exact fun a w hR hd hk K hK => yes (want_n rfl) (wp_mv _ rfl _ (get_keep (hk 14 (no_dst (by kernel_rfl))) rfl) (hK _ w rfl (Below.refl _ _)))
                    · exact fun a w hR hd hk K hK => yes (want_n rfl) (wp_idx68 134 136 gs (m1 + 1) vc (keep + 1) (hd 0 _ 134 rfl rfl rfl) (hd 2 _ 136 rfl rfl rfl) (by omega) (hK _ w rfl (Below.refl _ _)))
                    · exact fun a w hR hd hk K hK => yes (want_n rfl) (wp_idx66 138 137 gs ((keep + 1) * 3) j (hd 4 _ 138 rfl rfl rfl) (hd 3 _ 137 rfl rfl rfl) hj3 (hK _ w rfl (Below.refl _ _)))
                    · exact fun a w hR hd hk K hK => yes (want_n rfl) (wp_ld9 139 ⟨gs, (keep + 1) * 3 + j, none⟩ (txt (B j)) (hd 5 _ 139 rfl rfl rfl) (range_below rB2 hR j _ (fcells_get B j hj3)) (hK _ w rfl (Below.refl _ _)))
                    · exact fun a w hR hd hk K hK => yes (want_n rfl) (wp_len9 140 (txt (B j)) (hd 6 _ 140 rfl rfl rfl) (hK _ w rfl (Below.refl _ _)))
                    · exact fun a w hR hd hk K hK => yes (want_n rfl) (wp_mv _ rfl _ (get_keep (hk 14 (no_dst (by kernel_rfl))) rfl) (hK _ w rfl (Below.refl _ _)))
                    · exact fun a w hR hd hk K hK => yes (want_n rfl) (wp_idx66 15 142 gx 0 j (get_keep (hk 15 (no_dst (by kernel_rfl))) rfl) (hd 8 _ 142 rfl rfl rfl) hj3 (hK _ w rfl (Below.refl _ _)))
                    · exact fun a w hR hd hk K hK => yes (want_n rfl) (wp_ld9 143 ⟨gx, 0 + j, none⟩ (txt (A j)) (hd 9 _ 143 rfl rfl rfl) (range_below rX2 hR j _ (fcells_get A j hj3)) (hK _ w rfl (Below.refl _ _)))
                    · exact fun a w hR hd hk K hK => yes (want_n rfl) (wp_len9 144 (txt (A j)) (hd 10 _ 144 rfl rfl rfl) (hK _ w rfl (Below.refl _ _)))
                    · exact fun a w hR hd hk K hK => yes (want_n rfl) (wp_bin _ _ _ _ _ rfl _ _ _ (hd 7 _ 141 rfl rfl rfl) (hd 11 _ 145 rfl rfl rfl) rfl (gtr_nat w _ _) (hK _ w rfl (Below.refl _ _)))
                  · intro a wz hdf hsz hkp hval hRw
                    obtain ⟨f, hf⟩ : ∃ f, f = fun d => a.tmps.getD d undef := ⟨_, rfl⟩
                    have h146 : f 146 = .bool (decide ((txt (A j)).size < (txt (B j)).size)) := by rw [hf]; exact hval 12 _ 146 rfl rfl
                    have hfa := act_filled hdf hsz hkp
                    rw [← hf] at hfa
                    rw [hfa]
                    clear hdf hsz hkp hval hfa hf
                    clear a
                    simp only [fillAll, List.set_cons_zero, List.set_cons_succ, h146]
                    clear h146
                    have rB3 := range_below rB2 hRw
                    have rX3 := range_below rX2 hRw
                    replace hfx := hfx.below hRw
                    have bz := bnext by1 hRw
                    clear rB2 rX2 hRw by1
                    by_cases hfile : j = c.file
                    · have hBj : B j = A j ++ c.data := by
                        rw [hB.out]
                        unfold apply Ch.on
                        rw [if_pos hfile, if_pos hap]
                      have hdl : 0 < c.data.length := by
                        rcases Nat.eq_zero_or_pos c.data.length with h | h
                        · rw [List.length_eq_zero_iff] at h; rw [h] at hdt; simp at hdt
                        · exact h
                      have hNj : ∀ i, N i = if i = j then A j ++ c.data.take torn else A i := by
                        intro i
                        rcases hc2.out with ⟨e, _⟩ | ⟨_, e⟩
                        · rw [e] at hap; cases hap
                        · rw [e, hfile]
                          show (if i = c.file then ({ c with data := c.data.take torn } : Ch).on (A i) else A i) = _
                          by_cases h : i = c.file
                          · rw [if_pos h, if_pos h, h]
                            simp [Ch.on, hap]
                          · rw [if_neg h, if_neg h]
                      have e1 : decide ((txt (A j)).size < (txt (B j)).size) = true := decide_eq_true (by rw [txt_size, txt_size, hBj, List.length_append]; omega)
                      have hn1 : nn ≤ (txt (B j)).size := by rw [← hnn.out]; omega
                      have hext : (txt (B j)).extract 0 nn = txt (A j ++ c.data.take torn) := by
                        have hnv := hnn.out
                        rw [txt_size, txt_size, hBj, List.length_append] at hnv
                        unfold txt
                        rw [ByteArray.extract_mk, List.drop_zero, Nat.sub_zero, hBj, List.take_append, List.take_of_length_le (by omega)]
                        congr 3
                        rw [List.take_eq_take_iff]
                        omega
                      rw [e1]
                      replace hext := hid hext
                      replace hBj := hid hBj
                      replace hNj := hid hNj
                      replace hfile := hid hfile
                      have z0 := rB3 0 _ rfl
                      have z1 := rB3 1 _ rfl
                      have z2 := rB3 2 _ rfl
                      have x0 := rX3 0 _ rfl
                      have x1 := rX3 1 _ rfl
                      have x2 := rX3 2 _ rfl
                      have n3 := range_below r1 bz
                      have n0 := n3 0 _ rfl
                      have n1 := n3 1 _ rfl
                      have n2 := n3 2 _ rfl
                      have f0 := hfx.free 0
                      have f1 := hfx.free 1
                      have f2 := hfx.free 2
                      have zg : gx ≠ g1 := by
                        rw [hgx.out]
                        have := hbr.size
                        omega
                      rw [Nat.add_zero] at z0 x0 n0
                      obtain hj0 | hj0 | hj0 : j = 0 ∨ j = 1 ∨ j = 2 := by omega
                      · subst hj0
                        have hq : ∀ w, (Op.equalIn 10000 66 (.agg #[.string (txt (N 0)), .string (txt (N 1)), .string (txt (N 2))]) (.agg #[.string ((txt (B 0)).extract 0 nn), .string (txt (A 1)), .string (txt (A 2))])).run Try.prog w = .ok true w := fun w => by
                          have e0 := hNj.out 0
                          have e1 := hNj.out 1
                          have e2 := hNj.out 2
                          rw [if_pos rfl] at e0
                          rw [if_neg (by decide)] at e1 e2
                          rw [eq_in, hext.out, e0, e1, e2, decide_eq_true ⟨rfl, rfl, rfl⟩]
                        go_wp2
                        go_roundw
                        case rel =>
                          exact ⟨1, true, by omega, by go_num, rfl, (fun h => by cases h), bz.setCell (p := ⟨gx, 0, none⟩) (by rw [hgx.out]; exact hbr.size) _⟩
                        case measure => simp [intOf]
                      · subst hj0
                        have hq : ∀ w, (Op.equalIn 10000 66 (.agg #[.string (txt (N 0)), .string (txt (N 1)), .string (txt (N 2))]) (.agg #[.string (txt (A 0)), .string ((txt (B 1)).extract 0 nn), .string (txt (A 2))])).run Try.prog w = .ok true w := fun w => by
                          have e0 := hNj.out 0
                          have e1 := hNj.out 1
                          have e2 := hNj.out 2
                          rw [if_pos rfl] at e1
                          rw [if_neg (by decide)] at e0 e2
                          rw [eq_in, hext.out, e0, e1, e2, decide_eq_true ⟨rfl, rfl, rfl⟩]
                        go_wp2
                        go_roundw
                        case rel =>
                          exact ⟨2, true, by omega, by go_num, rfl, (fun h => by cases h), bz.setCell (p := ⟨gx, 1, none⟩) (by rw [hgx.out]; exact hbr.size) _⟩
                        case measure => simp [intOf]
                      · subst hj0
                        have hq : ∀ w, (Op.equalIn 10000 66 (.agg #[.string (txt (N 0)), .string (txt (N 1)), .string (txt (N 2))]) (.agg #[.string (txt (A 0)), .string (txt (A 1)), .string ((txt (B 2)).extract 0 nn)])).run Try.prog w = .ok true w := fun w => by
                          have e0 := hNj.out 0
                          have e1 := hNj.out 1
                          have e2 := hNj.out 2
                          rw [if_pos rfl] at e2
                          rw [if_neg (by decide)] at e0 e1
                          rw [eq_in, hext.out, e0, e1, e2, decide_eq_true ⟨rfl, rfl, rfl⟩]
                        go_wp2
                        go_roundw
                        case rel =>
                          exact ⟨3, true, by omega, by go_num, rfl, (fun h => by cases h), bz.setCell (p := ⟨gx, 2, none⟩) (by rw [hgx.out]; exact hbr.size) _⟩
                        case measure => simp [intOf]
                    · have hBj : B j = A j := by
                        rw [hB.out]
                        unfold apply
                        rw [if_neg hfile]
                      have e1 : decide ((txt (A j)).size < (txt (B j)).size) = false := decide_eq_false (by rw [hBj]; omega)
                      rw [e1]
                      clear e1
                      replace hBj := hid hBj
                      go_wp2
                      go_roundw
                      case rel =>
                        exact ⟨j + 1, false, by omega, by go_num, rfl, fun _ => ⟨hap, hdt, by omega⟩, bz⟩
                      case measure => simp [intOf]; omega
      · have hd1 : decide ((j : Int) < (len : Int)) = false := decide_eq_false (by omega)
        go_wp2_with fail
        refine (pending_any p x d _ s3.is).mono ?_
        rintro e w4 ⟨rfl, rfl⟩
        rw [← hm1.out]
        have hcr := crash_sole w0'.heap.size p x d (d.crash keep torn) keep torn 0 _ s3 b3.size (by rw [← hm1.out]; omega) (by unfold Dsk.crashE; rw [if_neg (by omega)]) (by unfold Dsk.crashD; rw [if_neg (by omega)]; rfl)
        go_wp2_with fail
        refine hcr.mono ?_
        rintro e w5 ⟨rfl, x5, s5, g5, k5⟩
        clear hcr
        have v5 := (crash_calm d keep torn).val
        have hfin : ∀ k, k < 3 → (d.crash keep torn).durB (k : Nat) = (d.crash keep torn).cur k := fun k hk => by unfold Dsk.durB; rw [if_neg (by unfold bad; omega)]; rfl
        have hcur : (d.crash keep torn).cur = runs (kept d.ops keep torn) d.dur := rfl
        have hpend : (d.crash keep torn).ops.length = 0 := rfl
        obtain ⟨D, hD⟩ : ∃ D, D = d.crash keep torn := ⟨_, rfl⟩
        rw [← hD] at s5 v5 hfin hcur hpend
        replace hD := hid hD
        obtain ⟨N, hN⟩ : ∃ N, N = D.cur := ⟨_, rfl⟩
        have st5 : Sts w5 w0'.heap.size (.slice (some ⟨gs, 0, none⟩) (m1 + 1) vc) (hist d.ops d.dur) := owns_kp st3 k5 (fun k e => (hoff k e).1)
        have b5 := b3.trans (k5.below s3.turn b3.size)
        rw [← hN] at hfin hcur
        have v5' : D.val = .agg #[.string (txt (N 0)), .string (txt (N 1)), .string (txt (N 2))] := by rw [v5, hN]; rfl
        replace hN := hid hN
        replace hpend := hid hpend
        replace hcur := hid hcur
        replace hfin := hid hfin
        clear v5
        go_wp2_with fail
        refine (all_sole w0'.heap.size p x5 D _ s5 (txt (N 0)) (txt (N 1)) (txt (N 2)) v5').mono ?_
        rintro e w6 ⟨rfl, hb6⟩
        replace v5' := hid v5'
        have bl := below_lit w6 (.cells #[.string (txt (N 0)), .string (txt (N 1)), .string (txt (N 2))] 66)
        have th := tblk_new w6 N
        have s7 := (s5.below hb6).below bl
        have st7 : Sts _ w0'.heap.size _ _ := owns_below (owns_below st5 hb6) bl
        have b7 := bnext (bnext b5 hb6) bl
        obtain ⟨g1, hg1⟩ : ∃ g1, g1 = w6.heap.size := ⟨_, rfl⟩
        rw [← hg1] at th
        have r1 := th.range
        obtain ⟨-, gs', hgs', -, rng⟩ := st7.range (by rw [hvl.out]; omega)
        obtain rfl : gs = gs' := by cases hgs'; rfl
        have zg1 := th.lt
        clear hgs' s5 st5 b5 hb6 st3 s3 hoff bl
        by_cases hk : m1 ≤ keep
        · have hmin : (if m1 < keep then (m1 : Int) else (keep : Int)) = (m1 : Int) := by split <;> omega
          have rA := rng m1 (by rw [hvl.out, ← hm1.out]; omega)
          obtain ⟨A, hA⟩ : ∃ A, A = (hist d.ops d.dur)[m1]'(by rw [hvl.out, ← hm1.out]; omega) := ⟨_, rfl⟩
          rw [← hA] at rA
          have eqA : ∀ i, i < 3 → N i = A i := by
            intro i hi
            have e1 : kept d.ops keep torn = d.ops := by
              unfold kept
              rw [List.drop_eq_nil_of_le (by rw [← hm1.out]; omega)]
            rw [hcur.out, hA, hist_get, e1, List.take_of_length_le (by rw [← hm1.out]; omega)]
          have eqNA : ∀ w, (binOp .eql 66 (tv N) (tv A)).run Try.prog w = .ok (.bool true) w := fun w => by
            rw [eq_tv, decide_eq_true ⟨eqA 0 (by omega), eqA 1 (by omega), eqA 2 (by omega)⟩]
          have hpe : ∀ W, Below (w6.alloc (.cells #[.string (txt (N 0)), .string (txt (N 1)), .string (txt (N 2))] 66)).heap.size (w6.alloc (.cells #[.string (txt (N 0)), .string (txt (N 1)), .string (txt (N 2))] 66)) W → Calls Try.prog 16 #[.pointer (some ⟨p, 0, none⟩)] W fun e w' => e = .returned (.int .i64 0) ∧ w' = W := fun W hb => by
            have := pending_any p x5 D W (s7.below hb).is
            rw [hpend.out] at this
            exact this
          replace hA := hid hA
          clear eqA
          replace rA := hid rA
          replace r1 := hid r1
          go_wp2_with fail
          rw [← hg1]
          replace hg1 := hid hg1
          generalize w6.alloc (.cells #[.string (txt (N 0)), .string (txt (N 1)), .string (txt (N 2))] 66) = w7 at *
          replace rA := rA.out
          replace r1 := r1.out
          refine wp_region_drawn (Rel := fun w w' => Below w.heap.size w w') (Pr := fun i v _ => v = ([tv N, .slice (some ⟨gs, 0, none⟩) (m1 + 1) vc, .int .i64 (m1 : Int), .pointer (some ⟨gs, m1 * 3, none⟩), tv A, .bool true, .bool true, .pointer (some ⟨p, 0, none⟩), .int .i64 0, .bool true, .bool true, .bool true, .bool true, .bool true, .bool true]).getD i undef) (by kernel_rfl) (by kernel_rfl) (drew_below _) bel_tr (fun _ _ _ _ h _ => h) ?_ ?_
          · refine ⟨?_, ?_, ?_, ?_, ?_, ?_, ?_, ?_, ?_, ?_, ?_, ?_, ?_, ?_, ?_, trivial⟩
            · exact fun a w hR hd hk K hK => yes (want_n rfl) (wp_ld66 11 g1 0 N (get_keep (hk 11 (no_dst (by kernel_rfl))) rfl) (range_below r1 hR) (hK _ w rfl (Below.refl _ _)))
            · exact fun a w hR hd hk K hK => yes (want_n rfl) (wp_mv _ rfl _ (get_keep (hk 8 (no_dst (by kernel_rfl))) rfl) (hK _ w rfl (Below.refl _ _)))
            · exact fun a w hR hd hk K hK => yes (want_n rfl) (wp_mv _ rfl _ (get_keep (hk 12 (no_dst (by kernel_rfl))) rfl) (hK _ w rfl (Below.refl _ _)))
            · exact fun a w hR hd hk K hK => yes (want_n rfl) (wp_idx68 88 89 gs (m1 + 1) vc m1 (hd 1 _ 88 rfl rfl rfl) (hd 2 _ 89 rfl rfl rfl) (by omega) (hK _ w rfl (Below.refl _ _)))
            · exact fun a w hR hd hk K hK => yes (want_n rfl) (wp_ld66 90 gs (m1 * 3) A (hd 3 _ 90 rfl rfl rfl) (range_below rA hR) (hK _ w rfl (Below.refl _ _)))
            · exact fun a w hR hd hk K hK => yes (want_n rfl) (wp_bin _ _ _ _ _ rfl _ _ _ (hd 0 _ 87 rfl rfl rfl) (hd 4 _ 91 rfl rfl rfl) rfl (eqNA w) (hK _ w rfl (Below.refl _ _)))
            · exact fun a w hR hd hk K hK => yes (want_n rfl) (wp_mv _ rfl _ (hd 5 _ 92 rfl rfl rfl) (hK _ w rfl (Below.refl _ _)))
            · exact fun a w hR hd hk K hK => yes (want_g rfl rfl (hd 6 _ 93 rfl rfl rfl)) (wp_mv _ rfl _ (get_keep (hk 7 (no_dst (by kernel_rfl))) rfl) (hK _ w rfl (Below.refl _ _)))
            · exact fun a w hR hd hk K hK => yes (want_g rfl rfl (hd 6 _ 93 rfl rfl rfl)) (wp_callv 16 _ _ rfl _ Try.func16 rfl rfl _ (args1 (hd 7 _ 94 rfl rfl rfl)) (hpe w hR) (by rintro e w' ⟨rfl, rfl⟩; exact ⟨_, rfl, hK _ w' rfl (Below.refl _ _)⟩))
            · exact fun a w hR hd hk K hK => yes (want_g rfl rfl (hd 6 _ 93 rfl rfl rfl)) (wp_bin _ _ _ _ _ rfl _ _ _ (hd 8 _ 95 rfl rfl rfl) rfl rfl (eql_same w 0) (hK _ w rfl (Below.refl _ _)))
            · exact fun a w hR hd hk K hK => yes (want_n rfl) (wp_pick _ _ _ rfl true _ (hd 6 _ 93 rfl rfl rfl) (hd 9 _ 96 rfl rfl rfl) (hK _ w rfl (Below.refl _ _)))
            · exact fun a w hR hd hk K hK => yes (want_n rfl) (wp_mv _ rfl _ (hd 10 _ 97 rfl rfl rfl) (hK _ w rfl (Below.refl _ _)))
            · exact fun a w hR hd hk K hK => yes (want_g rfl rfl (hd 11 _ 98 rfl rfl rfl)) (wp_callv 20 _ _ rfl _ Try.func20 rfl rfl #[] args0 (awake_any w) (by rintro e w' ⟨rfl, hb⟩; exact ⟨_, rfl, hK _ w' rfl hb⟩))
            · exact fun a w hR hd hk K hK => yes (want_n rfl) (wp_pick _ _ _ rfl true _ (hd 11 _ 98 rfl rfl rfl) (hd 12 _ 99 rfl rfl rfl) (hK _ w rfl (Below.refl _ _)))
            · exact fun a w hR hd hk K hK => yes (want_n rfl) (wp_as _ rfl _ (hd 13 _ 100 rfl rfl rfl) (hK _ w rfl (Below.refl _ _)))
          · intro a w8 hdf hsz hkp hval hRw
            obtain ⟨f, hf⟩ : ∃ f, f = fun d => a.tmps.getD d undef := ⟨_, rfl⟩
            have h6 : f 6 = .bool true := by rw [hf]; exact hval 14 _ 6 rfl rfl
            have hfa := act_filled hdf hsz hkp
            rw [← hf] at hfa
            rw [hfa]
            clear hdf hsz hkp hval hfa hf
            clear a
            simp only [fillAll, List.set_cons_zero, List.set_cons_succ, h6]
            clear h6
            have b8 := bnext b7 hRw
            go_wp2
            go_ret
            exact ⟨rfl, b8⟩
        · have hmin : (if m1 < keep then (m1 : Int) else (keep : Int)) = (keep : Int) := by split <;> omega
          have hkm : ((keep : Int) == (m1 : Int)) = false := beq_eq_false_iff_ne.2 (by omega)
          have hK : keep < d.ops.length := by rw [← hm1.out]; omega
          obtain ⟨c, hc1, hcf, hc2⟩ := crash_part d.ops d.dur keep torn hK
          have hcf3 : c.file < 3 := by rw [hcf]; exact okay_file hokay keep hK
          have rA := rng keep (by rw [hvl.out]; omega)
          have rB := rng (keep + 1) (by rw [hvl.out]; omega)
          rw [hist_get] at rA rB
          have lA := (hokay.take keep).short hshort
          have lB := (hokay.take (keep + 1)).short hshort
          rw [hc1] at rB lB
          rw [← hcur.out] at hc2
          obtain ⟨A, hA⟩ : ∃ A, A = runs (d.ops.take keep) d.dur := ⟨_, rfl⟩
          rw [← hA] at rA rB hc2 lA lB
          obtain ⟨B, hB⟩ : ∃ B, B = apply c A := ⟨_, rfl⟩
          rw [← hB] at rB lB
          clear hc1 hcf hA rng
          replace hB := hid hB
          replace hc2 := hid hc2
          replace rA := hid rA
          replace rB := hid rB
          replace r1 := hid r1
          go_wp2_with fail
          rw [← hg1]
          replace hg1 := hid hg1
          generalize w6.alloc (.cells #[.string (txt (N 0)), .string (txt (N 1)), .string (txt (N 2))] 66) = w7 at *
          replace rA := rA.out
          replace rB := rB.out
          replace r1 := r1.out
          refine wp_region_drawn (Rel := fun w w' => Below w.heap.size w w') (Pr := fun i v _ => v = ([tv N, .slice (some ⟨gs, 0, none⟩) (m1 + 1) vc, .int .i64 (keep : Int), .pointer (some ⟨gs, keep * 3, none⟩), tv A, .bool (decide (N 0 = A 0 ∧ N 1 = A 1 ∧ N 2 = A 2)), .bool (decide (N 0 = A 0 ∧ N 1 = A 1 ∧ N 2 = A 2))]).getD i undef) (by kernel_rfl) (by kernel_rfl) (drew_below _) bel_tr (fun _ _ _ _ h _ => h) ?_ ?_
          · refine ⟨?_, ?_, ?_, ?_, ?_, ?_, ?_, trivial⟩
            · exact fun a w hR hd hk K hK => yes (want_n rfl) (wp_ld66 11 g1 0 N (get_keep (hk 11 (no_dst (by kernel_rfl))) rfl) (range_below r1 hR) (hK _ w rfl (Below.refl _ _)))
            · exact fun a w hR hd hk K hK => yes (want_n rfl) (wp_mv _ rfl _ (get_keep (hk 8 (no_dst (by kernel_rfl))) rfl) (hK _ w rfl (Below.refl _ _)))
            · exact fun a w hR hd hk K hK => yes (want_n rfl) (wp_mv _ rfl _ (get_keep (hk 12 (no_dst (by kernel_rfl))) rfl) (hK _ w rfl (Below.refl _ _)))
            · exact fun a w hR hd hk K hK => yes (want_n rfl) (wp_idx68 102 103 gs (m1 + 1) vc keep (hd 1 _ 102 rfl rfl rfl) (hd 2 _ 103 rfl rfl rfl) (by omega) (hK _ w rfl (Below.refl _ _)))
            · exact fun a w hR hd hk K hK => yes (want_n rfl) (wp_ld66 104 gs (keep * 3) A (hd 3 _ 104 rfl rfl rfl) (range_below rA hR) (hK _ w rfl (Below.refl _ _)))
            · exact fun a w hR hd hk K hK => yes (want_n rfl) (wp_bin _ _ _ _ _ rfl _ _ _ (hd 0 _ 101 rfl rfl rfl) (hd 4 _ 105 rfl rfl rfl) rfl (eq_tv w N A) (hK _ w rfl (Below.refl _ _)))
            · exact fun a w hR hd hk K hK => yes (want_n rfl) (wp_as _ rfl _ (hd 5 _ 106 rfl rfl rfl) (hK _ w rfl (Below.refl _ _)))
          · intro a w8 hdf hsz hkp hval hRw
            obtain ⟨f, hf⟩ : ∃ f, f = fun d => a.tmps.getD d undef := ⟨_, rfl⟩
            have h13 : f 13 = .bool (decide (N 0 = A 0 ∧ N 1 = A 1 ∧ N 2 = A 2)) := by rw [hf]; exact hval 6 _ 13 rfl rfl
            have hfa := act_filled hdf hsz hkp
            rw [← hf] at hfa
            rw [hfa]
            clear hdf hsz hkp hval hfa hf
            clear a
            simp only [fillAll, List.set_cons_zero, List.set_cons_succ, h13]
            clear h13
            replace rA := range_below rA hRw
            replace rB := range_below rB hRw
            replace r1 := range_below r1 hRw
            replace s7 := s7.below hRw
            replace b7 := bnext b7 hRw
            replace zg1 := Nat.lt_of_lt_of_le zg1 hRw.size
            have hst : decide (N 0 = A 0 ∧ N 1 = A 1 ∧ N 2 = A 2) = false → c.app = true ∧ c.data.take torn ≠ [] := by
              intro h
              have h := of_decide_eq_false h
              rcases hc2.out with ⟨_, e⟩ | ⟨ha, e⟩
              · exact absurd (by rw [e]; exact ⟨rfl, rfl, rfl⟩) h
              · refine ⟨ha, fun e2 => h ?_⟩
                have e3 : N = A := by
                  rw [e]
                  funext i
                  unfold apply Ch.on
                  split
                  · simp [e2]
                  · rfl
                rw [e3]
                exact ⟨rfl, rfl, rfl⟩
            generalize decide (N 0 = A 0 ∧ N 1 = A 1 ∧ N 2 = A 2) = pb0 at *
            go_wp2_with fail
            go_loopw [13, 14] (fun b i wr => ∃ (j : Nat) (pb : Bool), j ≤ 3 ∧ i = .int .i64 j ∧ b = .bool pb ∧ (pb = false → c.app = true ∧ c.data.take torn ≠ [] ∧ j ≤ c.file) ∧ Below w8.heap.size w8 wr) (fun _ i _ => 3 - (intOf i).toNat)
            case atStart => exact ⟨0, pb0, by omega, rfl, rfl, fun h => ⟨(hst h).1, (hst h).2, Nat.zero_le _⟩, Below.refl _ _⟩
            case round =>
              clear hst
              obtain ⟨j, pb, hj3', rfl, rfl, hpb, hbr⟩ := hrel
              cases pb with
              | true =>
                clear hpb
                have qN := range_below r1 hbr
                have s8 := s7.below hbr
                have b8 := bnext b7 hbr
                by_cases hj4 : j < 3
                · go_wp2_with fail
                  go_loopw [13, 17] (fun b i wz => ∃ j : Nat, j ≤ 3 ∧ i = .int .i64 j ∧ b = .bool true ∧ Below wr.heap.size wr wz) (fun _ i _ => 3 - (intOf i).toNat)
                  case atStart => exact ⟨0, by omega, rfl, rfl, Below.refl _ _⟩
                  case round =>
                    obtain ⟨j, hj3', rfl, rfl, hbr3⟩ := hrel
                    by_cases hj3 : j < 3
                    · obtain ⟨rn, hrn⟩ : ∃ rn, (N j).length = rn := ⟨_, rfl⟩
                      have hdu := durable_sole w0'.heap.size p x5 D j 0 (N j) rn _ (s8.below hbr3) (by unfold Dsk.durE; rw [if_neg (by unfold bad; omega)]) (hfin.out j hj3) hrn
                      replace hrn := hid hrn
                      go_wp2_with fail
                      refine hdu.mono ?_
                      rintro e w10 ⟨ra, rc, rfl, ho, hb10⟩
                      have r1 := range_below (range_below qN hbr3) hb10
                      have hra := ho.at
                      have b10 := bnext hbr3 hb10
                      replace r1 := hid r1
                      clear hdu ho
                      replace hra := hid hra
                      go_wp2_with fail
                      replace r1 := r1.out
                      replace hra := hra.out
                      replace hrn := hrn.out
                      refine wp_region_drawnL (Rel := fun w w' => Below w.heap.size w w') (Pr := fun i v _ => v = ([.bool true, .bool true, .int .i64 0, .bool true, .bool true, .bool true, .slice ra rn rc, .string (txt (N j)), .int .i64 (j : Int), .pointer (some ⟨g1, 0 + j, none⟩), .string (txt (N j)), .bool true, .bool true, .bool true]).getD i undef) (by kernel_rfl) (by kernel_rfl) (drew_below _) bel_tr (fun _ _ _ _ h _ => h) ?_ ?_
                      · refine ⟨?_, ?_, ?_, ?_, ?_, ?_, ?_, ?_, ?_, ?_, ?_, ?_, ?_, ?_, trivial⟩
                        · exact fun a w hR hd hk hl K hK => yes (want_n rfl) (wp_mv _ rfl _ (get_keep (hl 13 _ 13 rfl rfl rfl) rfl) (hK _ w rfl (Below.refl _ _)))
                        · exact fun a w hR hd hk hl K hK => yes (want_n rfl) (wp_mv _ rfl _ (hd 0 _ 171 rfl rfl rfl) (hK _ w rfl (Below.refl _ _)))
                        · exact fun a w hR hd hk hl K hK => yes (want_g rfl rfl (hd 1 _ 172 rfl rfl rfl)) (wp_mv _ rfl _ (get_keep (hk 19 (no_dst (by kernel_rfl))) rfl) (hK _ w rfl (Below.refl _ _)))
                        · exact fun a w hR hd hk hl K hK => yes (want_g rfl rfl (hd 1 _ 172 rfl rfl rfl)) (wp_bin _ _ _ _ _ rfl _ _ _ (hd 2 _ 173 rfl rfl rfl) rfl rfl (eql00 w) (hK _ w rfl (Below.refl _ _)))
                        · exact fun a w hR hd hk hl K hK => yes (want_n rfl) (wp_pick _ _ _ rfl true _ (hd 1 _ 172 rfl rfl rfl) (hd 3 _ 174 rfl rfl rfl) (hK _ w rfl (Below.refl _ _)))
                        · exact fun a w hR hd hk hl K hK => yes (want_n rfl) (wp_mv _ rfl _ (hd 4 _ 175 rfl rfl rfl) (hK _ w rfl (Below.refl _ _)))
                        · exact fun a w hR hd hk hl K hK => yes (want_g rfl rfl (hd 5 _ 176 rfl rfl rfl)) (wp_mv _ rfl _ (get_keep (hk 18 (no_dst (by kernel_rfl))) rfl) (hK _ w rfl (Below.refl _ _)))
                        · exact fun a w hR hd hk hl K hK => yes (want_g rfl rfl (hd 5 _ 176 rfl rfl rfl)) (wp_conv9 177 rn rc ra (N j) hrn (hra.below hR) (hd 6 _ 177 rfl rfl rfl) (hK _ w rfl (Below.refl _ _)))
                        · exact fun a w hR hd hk hl K hK => yes (want_g rfl rfl (hd 5 _ 176 rfl rfl rfl)) (wp_mv _ rfl _ (get_keep (hk 17 (no_dst (by kernel_rfl))) rfl) (hK _ w rfl (Below.refl _ _)))
                        · exact fun a w hR hd hk hl K hK => yes (want_g rfl rfl (hd 5 _ 176 rfl rfl rfl)) (wp_idx66 11 179 g1 0 j (get_keep (hk 11 (no_dst (by kernel_rfl))) rfl) (hd 8 _ 179 rfl rfl rfl) hj3 (hK _ w rfl (Below.refl _ _)))
                        · exact fun a w hR hd hk hl K hK => yes (want_g rfl rfl (hd 5 _ 176 rfl rfl rfl)) (wp_ld9 180 ⟨g1, 0 + j, none⟩ (txt (N j)) (hd 9 _ 180 rfl rfl rfl) (range_below r1 hR j _ (fcells_get N j hj3)) (hK _ w rfl (Below.refl _ _)))
                        · exact fun a w hR hd hk hl K hK => yes (want_g rfl rfl (hd 5 _ 176 rfl rfl rfl)) (wp_bin _ _ _ _ _ rfl _ _ _ (hd 7 _ 178 rfl rfl rfl) (hd 10 _ 181 rfl rfl rfl) rfl (eql_txt w _) (hK _ w rfl (Below.refl _ _)))
                        · exact fun a w hR hd hk hl K hK => yes (want_n rfl) (wp_pick _ _ _ rfl true _ (hd 5 _ 176 rfl rfl rfl) (hd 11 _ 182 rfl rfl rfl) (hK _ w rfl (Below.refl _ _)))
                        · exact fun a w hR hd hk hl K hK => yes (want_n rfl) (wp_as _ rfl _ (hd 12 _ 183 rfl rfl rfl) (hK _ w rfl (Below.refl _ _)))
                      · intro a w11 hdf hsz hkp hval hRw
                        obtain ⟨f, hf⟩ : ∃ f, f = fun d => a.tmps.getD d undef := ⟨_, rfl⟩
                        have h13 : f 13 = .bool true := by rw [hf]; exact hval 13 _ 13 rfl rfl
                        have hfa := act_filled hdf hsz hkp
                        rw [← hf] at hfa
                        rw [hfa]
                        clear hdf hsz hkp hval hfa hf
                        clear a
                        simp only [fillAll, List.set_cons_zero, List.set_cons_succ, h13]
                        clear h13
                        have b11 := bnext b10 hRw
                        clear hra r1 b10 hRw
                        replace hrn := hid hrn
                        go_wp2
                        go_roundw
                        case rel => exact ⟨j + 1, by omega, by go_num, rfl, b11⟩
                        case measure => simp [intOf]; omega
                    · obtain rfl : j = 3 := by omega
                      go_wp2_with fail
                      refine (awake_any _).mono ?_
                      rintro e w12 ⟨rfl, hb12⟩
                      go_wp2
                      go_ret
                      exact ⟨rfl, bnext (bnext b8 hbr3) hb12⟩
                · go_wp2_with fail
                  go_loopw [13, 17] (fun b i wz => ∃ j : Nat, j ≤ 3 ∧ i = .int .i64 j ∧ b = .bool true ∧ Below wr.heap.size wr wz) (fun _ i _ => 3 - (intOf i).toNat)
                  case atStart => exact ⟨0, by omega, rfl, rfl, Below.refl _ _⟩
                  case round =>
                    obtain ⟨j, hj3', rfl, rfl, hbr3⟩ := hrel
                    by_cases hj3 : j < 3
                    · obtain ⟨rn, hrn⟩ : ∃ rn, (N j).length = rn := ⟨_, rfl⟩
                      have hdu := durable_sole w0'.heap.size p x5 D j 0 (N j) rn _ (s8.below hbr3) (by unfold Dsk.durE; rw [if_neg (by unfold bad; omega)]) (hfin.out j hj3) hrn
                      replace hrn := hid hrn
                      go_wp2_with fail
                      refine hdu.mono ?_
                      rintro e w10 ⟨ra, rc, rfl, ho, hb10⟩
                      have r1 := range_below (range_below qN hbr3) hb10
                      have hra := ho.at
                      have b10 := bnext hbr3 hb10
                      replace r1 := hid r1
                      clear hdu ho
                      replace hra := hid hra
                      go_wp2_with fail
                      replace r1 := r1.out
                      replace hra := hra.out
                      replace hrn := hrn.out
                      refine wp_region_drawnL (Rel := fun w w' => Below w.heap.size w w') (Pr := fun i v _ => v = ([.bool true, .bool true, .int .i64 0, .bool true, .bool true, .bool true, .slice ra rn rc, .string (txt (N j)), .int .i64 (j : Int), .pointer (some ⟨g1, 0 + j, none⟩), .string (txt (N j)), .bool true, .bool true, .bool true]).getD i undef) (by kernel_rfl) (by kernel_rfl) (drew_below _) bel_tr (fun _ _ _ _ h _ => h) ?_ ?_
                      · refine ⟨?_, ?_, ?_, ?_, ?_, ?_, ?_, ?_, ?_, ?_, ?_, ?_, ?_, ?_, trivial⟩
                        · exact fun a w hR hd hk hl K hK => yes (want_n rfl) (wp_mv _ rfl _ (get_keep (hl 13 _ 13 rfl rfl rfl) rfl) (hK _ w rfl (Below.refl _ _)))
                        · exact fun a w hR hd hk hl K hK => yes (want_n rfl) (wp_mv _ rfl _ (hd 0 _ 171 rfl rfl rfl) (hK _ w rfl (Below.refl _ _)))
                        · exact fun a w hR hd hk hl K hK => yes (want_g rfl rfl (hd 1 _ 172 rfl rfl rfl)) (wp_mv _ rfl _ (get_keep (hk 19 (no_dst (by kernel_rfl))) rfl) (hK _ w rfl (Below.refl _ _)))
                        · exact fun a w hR hd hk hl K hK => yes (want_g rfl rfl (hd 1 _ 172 rfl rfl rfl)) (wp_bin _ _ _ _ _ rfl _ _ _ (hd 2 _ 173 rfl rfl rfl) rfl rfl (eql00 w) (hK _ w rfl (Below.refl _ _)))
                        · exact fun a w hR hd hk hl K hK => yes (want_n rfl) (wp_pick _ _ _ rfl true _ (hd 1 _ 172 rfl rfl rfl) (hd 3 _ 174 rfl rfl rfl) (hK _ w rfl (Below.refl _ _)))
                        · exact fun a w hR hd hk hl K hK => yes (want_n rfl) (wp_mv _ rfl _ (hd 4 _ 175 rfl rfl rfl) (hK _ w rfl (Below.refl _ _)))
                        · exact fun a w hR hd hk hl K hK => yes (want_g rfl rfl (hd 5 _ 176 rfl rfl rfl)) (wp_mv _ rfl _ (get_keep (hk 18 (no_dst (by kernel_rfl))) rfl) (hK _ w rfl (Below.refl _ _)))
                        · exact fun a w hR hd hk hl K hK => yes (want_g rfl rfl (hd 5 _ 176 rfl rfl rfl)) (wp_conv9 177 rn rc ra (N j) hrn (hra.below hR) (hd 6 _ 177 rfl rfl rfl) (hK _ w rfl (Below.refl _ _)))
                        · exact fun a w hR hd hk hl K hK => yes (want_g rfl rfl (hd 5 _ 176 rfl rfl rfl)) (wp_mv _ rfl _ (get_keep (hk 17 (no_dst (by kernel_rfl))) rfl) (hK _ w rfl (Below.refl _ _)))
                        · exact fun a w hR hd hk hl K hK => yes (want_g rfl rfl (hd 5 _ 176 rfl rfl rfl)) (wp_idx66 11 179 g1 0 j (get_keep (hk 11 (no_dst (by kernel_rfl))) rfl) (hd 8 _ 179 rfl rfl rfl) hj3 (hK _ w rfl (Below.refl _ _)))
                        · exact fun a w hR hd hk hl K hK => yes (want_g rfl rfl (hd 5 _ 176 rfl rfl rfl)) (wp_ld9 180 ⟨g1, 0 + j, none⟩ (txt (N j)) (hd 9 _ 180 rfl rfl rfl) (range_below r1 hR j _ (fcells_get N j hj3)) (hK _ w rfl (Below.refl _ _)))
                        · exact fun a w hR hd hk hl K hK => yes (want_g rfl rfl (hd 5 _ 176 rfl rfl rfl)) (wp_bin _ _ _ _ _ rfl _ _ _ (hd 7 _ 178 rfl rfl rfl) (hd 10 _ 181 rfl rfl rfl) rfl (eql_txt w _) (hK _ w rfl (Below.refl _ _)))
                        · exact fun a w hR hd hk hl K hK => yes (want_n rfl) (wp_pick _ _ _ rfl true _ (hd 5 _ 176 rfl rfl rfl) (hd 11 _ 182 rfl rfl rfl) (hK _ w rfl (Below.refl _ _)))
                        · exact fun a w hR hd hk hl K hK => yes (want_n rfl) (wp_as _ rfl _ (hd 12 _ 183 rfl rfl rfl) (hK _ w rfl (Below.refl _ _)))
                      · intro a w11 hdf hsz hkp hval hRw
                        obtain ⟨f, hf⟩ : ∃ f, f = fun d => a.tmps.getD d undef := ⟨_, rfl⟩
                        have h13 : f 13 = .bool true := by rw [hf]; exact hval 13 _ 13 rfl rfl
                        have hfa := act_filled hdf hsz hkp
                        rw [← hf] at hfa
                        rw [hfa]
                        clear hdf hsz hkp hval hfa hf
                        clear a
                        simp only [fillAll, List.set_cons_zero, List.set_cons_succ, h13]
                        clear h13
                        have b11 := bnext b10 hRw
                        clear hra r1 b10 hRw
                        replace hrn := hid hrn
                        go_wp2
                        go_roundw
                        case rel => exact ⟨j + 1, by omega, by go_num, rfl, b11⟩
                        case measure => simp [intOf]; omega
                    · obtain rfl : j = 3 := by omega
                      go_wp2_with fail
                      refine (awake_any _).mono ?_
                      rintro e w12 ⟨rfl, hb12⟩
                      go_wp2
                      go_ret
                      exact ⟨rfl, bnext (bnext b8 hbr3) hb12⟩
              | false =>
                obtain ⟨hap, hdt, hjc⟩ := hpb rfl
                clear hpb
                have hj3 : j < 3 := by omega
                have qA := range_below rA hbr
                have y0 := qA 0 _ rfl
                have y1 := qA 1 _ rfl
                have y2 := qA 2 _ rfl
                rw [Nat.add_zero] at y0
                have bl := below_lit wr (.cells #[.string (txt (A 0)), .string (txt (A 1)), .string (txt (A 2))] 66)
                have rX := (tblk_new wr A).range
                have rBx := range_below (range_below rB hbr) bl
                have bx := bnext hbr bl
                obtain ⟨gx, hgx⟩ : ∃ gx, gx = wr.heap.size := ⟨_, rfl⟩
                rw [← hgx] at rX
                replace rX := hid rX
                replace rBx := hid rBx
                replace qA := hid qA
                go_wp2_with fail
                rw [← hgx]
                replace hgx := hid hgx
                have hfx := (tblk_new wr A)
                rw [← hgx.out] at hfx
                generalize wr.alloc (.cells #[.string (txt (A 0)), .string (txt (A 1)), .string (txt (A 2))] 66) = wx at *
                replace rX := rX.out
                have rB := rBx.out
                have lAj := lA j hj3
                have lBj := lB j hj3
                rw [← txt_size] at lAj lBj
                clear y0 y1 y2 bl
                refine wp_region_drawn (Rel := fun w w' => Below w.heap.size w w') (Pr := fun i v _ => v = ([.int .i64 (j : Int), .pointer (some ⟨gx, 0 + j, none⟩), .string (txt (A j)), .int .i64 ((txt (A j)).size : Int), .int .i64 (torn : Int), .int .i64 (((txt (A j)).size + torn : Nat) : Int), .slice (some ⟨gs, 0, none⟩) (m1 + 1) vc, .int .i64 (keep : Int), .int .i64 ((keep + 1 : Nat) : Int), .int .i64 (j : Int), .pointer (some ⟨gs, (keep + 1) * 3, none⟩), .pointer (some ⟨gs, (keep + 1) * 3 + j, none⟩), .string (txt (B j)), .int .i64 ((txt (B j)).size : Int), .int .i64 ((min ((txt (A j)).size + torn) (txt (B j)).size : Nat) : Int), .int .i64 ((min ((txt (A j)).size + torn) (txt (B j)).size : Nat) : Int)]).getD i undef) (by kernel_rfl) (by kernel_rfl) (drew_below _) bel_tr (fun _ _ _ _ h _ => h) ?_ ?_
                · refine ⟨?_, ?_, ?_, ?_, ?_, ?_, ?_, ?_, ?_, ?_, ?_, ?_, ?_, ?_, ?_, ?_, trivial⟩
                  · exact fun a w hR hd hk K hK => yes (want_n rfl) (wp_mv _ rfl _ (get_keep (hk 14 (no_dst (by kernel_rfl))) rfl) (hK _ w rfl (Below.refl _ _)))
                  · exact fun a w hR hd hk K hK => yes (want_n rfl) (wp_idx66 15 119 gx 0 j (get_keep (hk 15 (no_dst (by kernel_rfl))) rfl) (hd 0 _ 119 rfl rfl rfl) hj3 (hK _ w rfl (Below.refl _ _)))
                  · exact fun a w hR hd hk K hK => yes (want_n rfl) (wp_ld9 120 ⟨gx, 0 + j, none⟩ (txt (A j)) (hd 1 _ 120 rfl rfl rfl) (range_below rX hR j _ (fcells_get A j hj3)) (hK _ w rfl (Below.refl _ _)))
                  · exact fun a w hR hd hk K hK => yes (want_n rfl) (wp_len9 121 (txt (A j)) (hd 2 _ 121 rfl rfl rfl) (hK _ w rfl (Below.refl _ _)))
                  · exact fun a w hR hd hk K hK => yes (want_n rfl) (wp_mv _ rfl _ (get_keep (hk 2 (no_dst (by kernel_rfl))) rfl) (hK _ w rfl (Below.refl _ _)))
                  · exact fun a w hR hd hk K hK => yes (want_n rfl) (wp_bin _ _ _ _ _ rfl _ _ _ (hd 3 _ 122 rfl rfl rfl) (hd 4 _ 123 rfl rfl rfl) rfl (add_nat w _ _ (by omega)) (hK _ w rfl (Below.refl _ _)))
                  · exact fun a w hR hd hk K hK => yes (want_n rfl) (wp_mv _ rfl _ (get_keep (hk 8 (no_dst (by kernel_rfl))) rfl) (hK _ w rfl (Below.refl _ _)))
                  · exact fun a w hR hd hk K hK => yes (want_n rfl) (wp_mv _ rfl _ (get_keep (hk 12 (no_dst (by kernel_rfl))) rfl) (hK _ w rfl (Below.refl _ _)))
                  · exact fun a w hR hd hk K hK => yes (want_n rfl) (wp_bin _ _ _ _ _ rfl _ _ _ (hd 7 _ 126 rfl rfl rfl) rfl rfl (add_nat w keep 1 (by omega)) (hK _ w rfl (Below.refl _ _)))
                  · exact fun a w hR hd hk K hK => yes (want_n rfl) (wp_mv _ rfl _ (get_keep (hk 14 (no_dst (by kernel_rfl))) rfl) (hK _ w rfl (Below.refl _ _)))
                  · exact fun a w hR hd hk K hK => yes (want_n rfl) (wp_idx68 125 127 gs (m1 + 1) vc (keep + 1) (hd 6 _ 125 rfl rfl rfl) (hd 8 _ 127 rfl rfl rfl) (by omega) (hK _ w rfl (Below.refl _ _)))
                  · exact fun a w hR hd hk K hK => yes (want_n rfl) (wp_idx66 129 128 gs ((keep + 1) * 3) j (hd 10 _ 129 rfl rfl rfl) (hd 9 _ 128 rfl rfl rfl) hj3 (hK _ w rfl (Below.refl _ _)))
                  · exact fun a w hR hd hk K hK => yes (want_n rfl) (wp_ld9 130 ⟨gs, (keep + 1) * 3 + j, none⟩ (txt (B j)) (hd 11 _ 130 rfl rfl rfl) (range_below rB hR j _ (fcells_get B j hj3)) (hK _ w rfl (Below.refl _ _)))
                  · exact fun a w hR hd hk K hK => yes (want_n rfl) (wp_len9 131 (txt (B j)) (hd 12 _ 131 rfl rfl rfl) (hK _ w rfl (Below.refl _ _)))
                  · exact fun a w hR hd hk K hK => yes (want_n rfl) (wp_min 124 132 ((txt (A j)).size + torn) (txt (B j)).size (hd 5 _ 124 rfl rfl rfl) (hd 13 _ 132 rfl rfl rfl) (hK _ w rfl (Below.refl _ _)))
                  · exact fun a w hR hd hk K hK => yes (want_n rfl) (wp_as _ rfl _ (hd 14 _ 133 rfl rfl rfl) (hK _ w rfl (Below.refl _ _)))
                · intro a wy hdf hsz hkp hval hRw
                  obtain ⟨f, hf⟩ : ∃ f, f = fun d => a.tmps.getD d undef := ⟨_, rfl⟩
                  have h16 : f 16 = .int .i64 ((min ((txt (A j)).size + torn) (txt (B j)).size : Nat) : Int) := by rw [hf]; exact hval 15 _ 16 rfl rfl
                  have hfa := act_filled hdf hsz hkp
                  rw [← hf] at hfa
                  rw [hfa]
                  clear hdf hsz hkp hval hfa hf
                  clear a
                  simp only [fillAll, List.set_cons_zero, List.set_cons_succ, h16]
                  clear h16
                  have rB2 := range_below rB hRw
                  have rX2 := range_below rX hRw
                  replace hfx := hfx.below hRw
                  have by1 := bnext bx hRw
                  clear rB rX hRw bx
                  generalize hnn : min ((txt (A j)).size + torn) (txt (B j)).size = nn
                  replace hnn := hid hnn
                  replace rB2 := hid rB2
                  replace rX2 := hid rX2
                  replace hfx := hid hfx
                  go_wp2_with fail
                  replace hfx := hfx.out
                  replace rB2 := rB2.out
                  replace rX2 := rX2.out
                  refine wp_region_drawn (Rel := fun w w' => Below w.heap.size w w') (Pr := fun i v _ => v = ([.slice (some ⟨gs, 0, none⟩) (m1 + 1) vc, .int .i64 (keep : Int), .int .i64 ((keep + 1 : Nat) : Int), .int .i64 (j : Int), .pointer (some ⟨gs, (keep + 1) * 3, none⟩), .pointer (some ⟨gs, (keep + 1) * 3 + j, none⟩), .string (txt (B j)), .int .i64 ((txt (B j)).size : Int), .int .i64 (j : Int), .pointer (some ⟨gx, 0 + j, none⟩), .string (txt (A j)), .int .i64 ((txt (A j)).size : Int), .bool (decide ((txt (A j)).size < (txt (B j)).size))]).getD i undef) (by kernel_rfl) (by kernel_rfl) (drew_below _) bel_tr (fun _ _ _ _ h _ => h) ?_ ?_
                  · refine ⟨?_, ?_, ?_, ?_, ?_, ?_, ?_, ?_, ?_, ?_, ?_, ?_, ?_, trivial⟩
                    · exact fun a w hR hd hk K hK => yes (want_n rfl) (wp_mv _ rfl _ (get_keep (hk 8 (no_dst (by kernel_rfl))) rfl) (hK _ w rfl (Below.refl _ _)))
                    · exact fun a w hR hd hk K hK => yes (want_n rfl) (wp_mv _ rfl _ (get_keep (hk 12 (no_dst (by kernel_rfl))) rfl) (hK _ w rfl (Below.refl _ _)))
                    · exact fun a w hR hd hk K hK => yes (want_n rfl) (wp_bin _ _ _ _ _ rfl _ _ _ (hd 1 _ 135 rfl rfl rfl) rfl rfl (add_nat w keep 1 (by omega)) (hK _ w rfl (Below.refl _ _)))
                    · exact fun a w hR hd hk K hK => yes (want_n rfl) (wp_mv _ rfl _ (get_keep (hk 14 (no_dst (by kernel_rfl))) rfl) (hK _ w rfl (Below.refl _ _)))
                    · exact fun a w hR hd hk K hK => yes (want_n rfl) (wp_idx68 134 136 gs (m1 + 1) vc (keep + 1) (hd 0 _ 134 rfl rfl rfl) (hd 2 _ 136 rfl rfl rfl) (by omega) (hK _ w rfl (Below.refl _ _)))
                    · exact fun a w hR hd hk K hK => yes (want_n rfl) (wp_idx66 138 137 gs ((keep + 1) * 3) j (hd 4 _ 138 rfl rfl rfl) (hd 3 _ 137 rfl rfl rfl) hj3 (hK _ w rfl (Below.refl _ _)))
                    · exact fun a w hR hd hk K hK => yes (want_n rfl) (wp_ld9 139 ⟨gs, (keep + 1) * 3 + j, none⟩ (txt (B j)) (hd 5 _ 139 rfl rfl rfl) (range_below rB2 hR j _ (fcells_get B j hj3)) (hK _ w rfl (Below.refl _ _)))
                    · exact fun a w hR hd hk K hK => yes (want_n rfl) (wp_len9 140 (txt (B j)) (hd 6 _ 140 rfl rfl rfl) (hK _ w rfl (Below.refl _ _)))
                    · exact fun a w hR hd hk K hK => yes (want_n rfl) (wp_mv _ rfl _ (get_keep (hk 14 (no_dst (by kernel_rfl))) rfl) (hK _ w rfl (Below.refl _ _)))
                    · exact fun a w hR hd hk K hK => yes (want_n rfl) (wp_idx66 15 142 gx 0 j (get_keep (hk 15 (no_dst (by kernel_rfl))) rfl) (hd 8 _ 142 rfl rfl rfl) hj3 (hK _ w rfl (Below.refl _ _)))
                    · exact fun a w hR hd hk K hK => yes (want_n rfl) (wp_ld9 143 ⟨gx, 0 + j, none⟩ (txt (A j)) (hd 9 _ 143 rfl rfl rfl) (range_below rX2 hR j _ (fcells_get A j hj3)) (hK _ w rfl (Below.refl _ _)))
                    · exact fun a w hR hd hk K hK => yes (want_n rfl) (wp_len9 144 (txt (A j)) (hd 10 _ 144 rfl rfl rfl) (hK _ w rfl (Below.refl _ _)))
                    · exact fun a w hR hd hk K hK => yes (want_n rfl) (wp_bin _ _ _ _ _ rfl _ _ _ (hd 7 _ 141 rfl rfl rfl) (hd 11 _ 145 rfl rfl rfl) rfl (gtr_nat w _ _) (hK _ w rfl (Below.refl _ _)))
                  · intro a wz hdf hsz hkp hval hRw
                    obtain ⟨f, hf⟩ : ∃ f, f = fun d => a.tmps.getD d undef := ⟨_, rfl⟩
                    have h146 : f 146 = .bool (decide ((txt (A j)).size < (txt (B j)).size)) := by rw [hf]; exact hval 12 _ 146 rfl rfl
                    have hfa := act_filled hdf hsz hkp
                    rw [← hf] at hfa
                    rw [hfa]
                    clear hdf hsz hkp hval hfa hf
                    clear a
                    simp only [fillAll, List.set_cons_zero, List.set_cons_succ, h146]
                    clear h146
                    have rB3 := range_below rB2 hRw
                    have rX3 := range_below rX2 hRw
                    replace hfx := hfx.below hRw
                    have bz := bnext by1 hRw
                    clear rB2 rX2 hRw by1
                    by_cases hfile : j = c.file
                    · have hBj : B j = A j ++ c.data := by
                        rw [hB.out]
                        unfold apply Ch.on
                        rw [if_pos hfile, if_pos hap]
                      have hdl : 0 < c.data.length := by
                        rcases Nat.eq_zero_or_pos c.data.length with h | h
                        · rw [List.length_eq_zero_iff] at h; rw [h] at hdt; simp at hdt
                        · exact h
                      have hNj : ∀ i, N i = if i = j then A j ++ c.data.take torn else A i := by
                        intro i
                        rcases hc2.out with ⟨e, _⟩ | ⟨_, e⟩
                        · rw [e] at hap; cases hap
                        · rw [e, hfile]
                          show (if i = c.file then ({ c with data := c.data.take torn } : Ch).on (A i) else A i) = _
                          by_cases h : i = c.file
                          · rw [if_pos h, if_pos h, h]
                            simp [Ch.on, hap]
                          · rw [if_neg h, if_neg h]
                      have e1 : decide ((txt (A j)).size < (txt (B j)).size) = true := decide_eq_true (by rw [txt_size, txt_size, hBj, List.length_append]; omega)
                      have hn1 : nn ≤ (txt (B j)).size := by rw [← hnn.out]; omega
                      have hext : (txt (B j)).extract 0 nn = txt (A j ++ c.data.take torn) := by
                        have hnv := hnn.out
                        rw [txt_size, txt_size, hBj, List.length_append] at hnv
                        unfold txt
                        rw [ByteArray.extract_mk, List.drop_zero, Nat.sub_zero, hBj, List.take_append, List.take_of_length_le (by omega)]
                        congr 3
                        rw [List.take_eq_take_iff]
                        omega
                      rw [e1]
                      replace hext := hid hext
                      replace hBj := hid hBj
                      replace hNj := hid hNj
                      replace hfile := hid hfile
                      have z0 := rB3 0 _ rfl
                      have z1 := rB3 1 _ rfl
                      have z2 := rB3 2 _ rfl
                      have x0 := rX3 0 _ rfl
                      have x1 := rX3 1 _ rfl
                      have x2 := rX3 2 _ rfl
                      have n3 := range_below r1 bz
                      have n0 := n3 0 _ rfl
                      have n1 := n3 1 _ rfl
                      have n2 := n3 2 _ rfl
                      have f0 := hfx.free 0
                      have f1 := hfx.free 1
                      have f2 := hfx.free 2
                      have zg : gx ≠ g1 := by
                        rw [hgx.out]
                        have := hbr.size
                        omega
                      rw [Nat.add_zero] at z0 x0 n0
                      obtain hj0 | hj0 | hj0 : j = 0 ∨ j = 1 ∨ j = 2 := by omega
                      · subst hj0
                        have hq : ∀ w, (Op.equalIn 10000 66 (.agg #[.string (txt (N 0)), .string (txt (N 1)), .string (txt (N 2))]) (.agg #[.string ((txt (B 0)).extract 0 nn), .string (txt (A 1)), .string (txt (A 2))])).run Try.prog w = .ok true w := fun w => by
                          have e0 := hNj.out 0
                          have e1 := hNj.out 1
                          have e2 := hNj.out 2
                          rw [if_pos rfl] at e0
                          rw [if_neg (by decide)] at e1 e2
                          rw [eq_in, hext.out, e0, e1, e2, decide_eq_true ⟨rfl, rfl, rfl⟩]
                        go_wp2
                        go_roundw
                        case rel =>
                          exact ⟨1, true, by omega, by go_num, rfl, (fun h => by cases h), bz.setCell (p := ⟨gx, 0, none⟩) (by rw [hgx.out]; exact hbr.size) _⟩
                        case measure => simp [intOf]
                      · subst hj0
                        have hq : ∀ w, (Op.equalIn 10000 66 (.agg #[.string (txt (N 0)), .string (txt (N 1)), .string (txt (N 2))]) (.agg #[.string (txt (A 0)), .string ((txt (B 1)).extract 0 nn), .string (txt (A 2))])).run Try.prog w = .ok true w := fun w => by
                          have e0 := hNj.out 0
                          have e1 := hNj.out 1
                          have e2 := hNj.out 2
                          rw [if_pos rfl] at e1
                          rw [if_neg (by decide)] at e0 e2
                          rw [eq_in, hext.out, e0, e1, e2, decide_eq_true ⟨rfl, rfl, rfl⟩]
                        go_wp2
                        go_roundw
                        case rel =>
                          exact ⟨2, true, by omega, by go_num, rfl, (fun h => by cases h), bz.setCell (p := ⟨gx, 1, none⟩) (by rw [hgx.out]; exact hbr.size) _⟩
                        case measure => simp [intOf]
                      · subst hj0
                        have hq : ∀ w, (Op.equalIn 10000 66 (.agg #[.string (txt (N 0)), .string (txt (N 1)), .string (txt (N 2))]) (.agg #[.string (txt (A 0)), .string (txt (A 1)), .string ((txt (B 2)).extract 0 nn)])).run Try.prog w = .ok true w := fun w => by
                          have e0 := hNj.out 0
                          have e1 := hNj.out 1
                          have e2 := hNj.out 2
                          rw [if_pos rfl] at e2
                          rw [if_neg (by decide)] at e0 e1
                          rw [eq_in, hext.out, e0, e1, e2, decide_eq_true ⟨rfl, rfl, rfl⟩]
                        go_wp2
                        go_roundw
                        case rel =>
                          exact ⟨3, true, by omega, by go_num, rfl, (fun h => by cases h), bz.setCell (p := ⟨gx, 2, none⟩) (by rw [hgx.out]; exact hbr.size) _⟩
                        case measure => simp [intOf]
                    · have hBj : B j = A j := by
                        rw [hB.out]
                        unfold apply
                        rw [if_neg hfile]
                      have e1 : decide ((txt (A j)).size < (txt (B j)).size) = false := decide_eq_false (by rw [hBj]; omega)
                      rw [e1]
                      clear e1
                      replace hBj := hid hBj
                      go_wp2
                      go_roundw
                      case rel =>
                        exact ⟨j + 1, false, by omega, by go_num, rfl, fun _ => ⟨hap, hdt, by omega⟩, bz⟩
                      case measure => simp [intOf]; omega

end Go.Proofs.Ytpngnmogjmdmhaa
