/- SameJobs: two rows of the same jobs. -/
import Derived.Test.YtomdghodbkhkaaaGreatDoorRx5
import Derived.Test.YtomdghodbkhkaaaGreatDoorSm
import Derived.Test.YtomdghodbkhkaaaGreatDoorAwk
import Derived.Test.YtomdghodbkhkaaaGreatDoorArg5
namespace Go.Proofs.YtomdghodbkhkaaaGreatDoor
open Go.RowKit
set_option linter.unusedVariables false
set_option linter.unusedSimpArgs false

def pv15 (b o k c b' o' c' i : Nat) (X : Job) (xa : Option Addr) (xc : Nat) : List Value := [.slice (some ⟨b, o, none⟩) k c, .int .i64 (i : Int), .pointer (some ⟨b, o + i * 17, none⟩), .agg (jc (X.re xa xc)).toArray, .slice (some ⟨b', o', none⟩) k c', .int .i64 (i : Int), .pointer (some ⟨b', o' + i * 17, none⟩), .agg (jc X).toArray, .bool true, .bool false]

/-- The same jobs, their dependencies wherever they lie. -/
def Twin (w : World) (n : Nat) (M M' : List Job) : Prop := ∀ i, i < n → ∃ (X : Job) (D : List Dp) (x x' : Option Addr) (y y' : Nat), jobAt M i = X.re x y ∧ jobAt M' i = X.re x' y' ∧ D.length = X.s.dn ∧ X.s.dn ≤ 4611686018427387904 ∧ DAt w x D ∧ DAt w x' D

set_option maxRecDepth 100000 in
set_option maxHeartbeats 2000000 in
theorem samejobs (a : Option Addr) (a' : Option Addr) (k c c' : Nat) (M M' : List Job) (w : World) (hn : M.length = k) (hn' : M'.length = k) (hl : k ≤ 4611686018427387904) (h1 : JAt w a M) (h2 : JAt w a' M') (ht : Twin w k M M') :
    Calls Tryz.prog 15 #[.slice a k c, .slice a' k c'] w fun e w' => e = .returned (.bool true) ∧ Below w.heap.size w w' := by
  replace hn := hid hn
  replace hn' := hid hn'
  replace h1 := hid h1
  replace h2 := hid h2
  replace ht := hid ht
  go_enter Tryz.func15, Tryz.ntmps15
  go_wp2_with fail
  go_loopw [5] (fun i wr => ∃ j : Nat, j ≤ k ∧ i = .int .i64 (j : Int) ∧ Below w.heap.size w wr) (fun i _ => k - (intOf i).toNat)
  case atStart => exact ⟨0, Nat.zero_le _, rfl, Below.refl _ _⟩
  case round =>
    obtain ⟨i, hi, rfl, hb⟩ := hrel
    by_cases hlt : i < k
    · have e2 : i < M.length := by rw [hn.out]; exact hlt
      have e1 : i < M'.length := by rw [hn'.out]; exact hlt
      obtain ⟨b, o, e⟩ := h1.out.place (by omega)
      subst e
      obtain ⟨b', o', e⟩ := h2.out.place (by omega)
      subst e
      have r1 := (h1.out.below hb).range e2
      have r2 := (h2.out.below hb).range e1
      obtain ⟨X0, Dx, xa, x', xc, y', hx, hx', u1, u3, u4, u2⟩ := ht.out i hlt
      rw [hx] at r1
      rw [hx'] at r2
      have hik : i < k := hlt
      have hiz : (0 : Int) ≤ (i : Int) := by omega
      have kS := fun wx (h : Below wr.heap.size wr wx) => samejob (X0.re x' y') Dx xa xc wx u1 u3 (CAt.below u4 (bnext hb h)) (CAt.below u2 (bnext hb h))
      have hre : (X0.re x' y').re xa xc = X0.re xa xc := rfl
      rw [← hre] at r1
      replace hx := hid hx
      replace hx' := hid hx'
      replace hre := hid hre
      replace u1 := hid u1
      replace u2 := hid u2
      replace u3 := hid u3
      replace u4 := hid u4
      generalize X0.re x' y' = X at *
      replace kS := hid kS
      replace r1 := hid r1
      replace r2 := hid r2
      go_wp2_with fail
      replace kS := kS.out
      replace r1 := r1.out
      replace r2 := r2.out
      refine wp_region_drawn (Rel := fun w w' => Below w.heap.size w w') (Pr := PrV (pv15 b o k c b' o' c' i X xa xc) [] (fun _ _ _ => True)) (by kernel_rfl) (by kernel_rfl) (drew_below _) bel_tr (PrV.mono (fun _ _ _ _ _ _ => trivial)) ?_ ?_
      · refine ⟨?_, ?_, ?_, ?_, ?_, ?_, ?_, ?_, ?_, ?_, trivial⟩
        · exact fun ac w hR hd hk K hK => yes (want_n rfl) (wp_mv _ rfl _ (get_keep (hk 0 (no_dst (by kernel_rfl))) rfl) (hK _ w (PrV.is rfl rfl) (Below.refl _ _)))
        · exact fun ac w hR hd hk K hK => yes (want_n rfl) (wp_mv _ rfl _ (get_keep (hk 5 (no_dst (by kernel_rfl))) rfl) (hK _ w (PrV.is rfl rfl) (Below.refl _ _)))
        · intro ac w hR hd hk K hK
          have e17 : ac.tmps[17]?.getD undef = (.slice (some ⟨b, o, none⟩) k c : Value) := slot ((hd 0 _ 17 rfl rfl rfl).val rfl)
          have e18 : ac.tmps[18]?.getD undef = (.int .i64 (i : Int) : Value) := slot ((hd 1 _ 18 rfl rfl rfl).val rfl)
          have i1 := hik
          have i2 := hiz
          refine yes (want_n rfl) ?_
          have hv := hid (hK (.pointer (some ⟨b, o + i * 17, none⟩)) w (PrV.is rfl rfl) (Below.refl _ _))
          go_simp
          refine kq hv.out ?_
          rfl
        · exact fun ac w hR hd hk K hK => yes (want_n rfl) (wp_load_mid 46 _ rfl b (o + i * 17) ((hd 2 _ 19 rfl rfl rfl).val rfl) (jc (X.re xa xc)) _ (range_below r1 hR) Tryz.underlying46 rfl (by kernel_rfl) (hK _ w (PrV.is rfl rfl) (Below.refl _ _)))
        · exact fun ac w hR hd hk K hK => yes (want_n rfl) (wp_mv _ rfl _ (get_keep (hk 1 (no_dst (by kernel_rfl))) rfl) (hK _ w (PrV.is rfl rfl) (Below.refl _ _)))
        · exact fun ac w hR hd hk K hK => yes (want_n rfl) (wp_mv _ rfl _ (get_keep (hk 5 (no_dst (by kernel_rfl))) rfl) (hK _ w (PrV.is rfl rfl) (Below.refl _ _)))
        · intro ac w hR hd hk K hK
          have e21 : ac.tmps[21]?.getD undef = (.slice (some ⟨b', o', none⟩) k c' : Value) := slot ((hd 4 _ 21 rfl rfl rfl).val rfl)
          have e22 : ac.tmps[22]?.getD undef = (.int .i64 (i : Int) : Value) := slot ((hd 5 _ 22 rfl rfl rfl).val rfl)
          have i1 := hik
          have i2 := hiz
          refine yes (want_n rfl) ?_
          have hv := hid (hK (.pointer (some ⟨b', o' + i * 17, none⟩)) w (PrV.is rfl rfl) (Below.refl _ _))
          go_simp
          refine kq hv.out ?_
          rfl
        · exact fun ac w hR hd hk K hK => yes (want_n rfl) (wp_load_mid 46 _ rfl b' (o' + i * 17) ((hd 6 _ 23 rfl rfl rfl).val rfl) (jc X) _ (range_below r2 hR) Tryz.underlying46 rfl (by kernel_rfl) (hK _ w (PrV.is rfl rfl) (Below.refl _ _)))
        · exact fun ac w hR hd hk K hK => yes (want_n rfl) (wp_callv 34 _ _ rfl _ Tryz.func34 rfl rfl _ (args2 ((hd 3 _ 20 rfl rfl rfl).val rfl) ((hd 7 _ 24 rfl rfl rfl).val rfl)) (kS w hR) (by rintro e w' ⟨rfl, hb⟩; exact ⟨_, rfl, hK _ w' (PrV.is rfl rfl) (hb)⟩))
        · intro ac w hR hd hk K hK
          have e25 : ac.tmps[25]?.getD undef = (.bool true : Value) := slot ((hd 8 _ 25 rfl rfl rfl).val rfl)
          refine yes (want_n rfl) ?_
          have hv := hid (hK (.bool false) w (PrV.is rfl rfl) (Below.refl _ _))
          go_simp
          refine kq hv.out ?_
          rfl
      · intro a w5 hdf hsz hkp hval hRw
        obtain ⟨f, hf⟩ : ∃ f, f = fun d => a.tmps.getD d undef := ⟨_, rfl⟩
        have h26 : f 26 = .bool false := by rw [hf]; exact (hval 9 _ 26 rfl rfl).val rfl
        have hfa := act_filled hdf hsz hkp
        rw [← hf] at hfa
        rw [hfa]
        clear hdf hsz hkp hval hfa hf
        clear a
        simp only [fillAll, List.set_cons_zero, List.set_cons_succ, h26]
        clear h26
        have B5 := bnext hb hRw
        go_wp2_with fail
        go_roundw
        case rel => exact ⟨i + 1, by omega, by go_num, B5⟩
        case measure => simp [intOf]; omega
    · have hje : i = k := by omega
      subst hje
      go_wp2
      go_ret
      exact ⟨rfl, hb⟩

end Go.Proofs.YtomdghodbkhkaaaGreatDoor

namespace Go.Proofs.YtomdghodbkhkaaaGreatDoor
open Go.RowKit
set_option linter.unusedVariables false
set_option linter.unusedSimpArgs false

/-- One dependency's id is written over. -/
theorem DOwn.put {w : World} {base n c g i : Nat} {L : List Dp} (h : DOwn w base (.slice (some ⟨g, 0, none⟩) n c) L) (hn : L.length = n) (hi : i < n) (v : Int) :
    DOwn (w.setCell ⟨g, i * 2 + 1, none⟩ (.int .i64 v)) base (.slice (some ⟨g, 0, none⟩) n c) (L.set i ((dpAt L i).1, v)) := by
  unfold DOwn at *
  rw [List.length_set, hn]
  rw [hn] at h
  rw [← flat_set dc2 2 dc2_len (L := L) (i := i) (by omega) ((dpAt L i).1, v) 1 (.int .i64 v) (by omega) (by rw [dpAt_eq (by omega)]; rfl)]
  exact owns_put h (by omega) _
theorem dpAt_set {L : List Dp} {k q : Nat} {v : Dp} (hk : k < L.length) : dpAt (L.set k v) q = if q = k then v else dpAt L q := by
  unfold dpAt
  rw [List.getD_eq_getElem?_getD, List.getD_eq_getElem?_getD, List.getElem?_set]
  by_cases h : k = q
  · subst h; rw [if_pos rfl, if_pos hk, if_pos rfl]; rfl
  · rw [if_neg h, if_neg (fun e => h e.symm)]

/-- While the dependencies are written over: those of the jobs below i, and those below kk of the job i. -/
structure WS (W wr : World) (a7 : Option Addr) (n : Nat) (M : List Job) (dn i kk : Nat) : Prop where
  jat : JAt wr a7 M
  bel : Below W.heap.size W wr
  own : ∀ p, p < n → ∃ DA, DA.length = dn ∧ DOwn wr W.heap.size (.slice (jobAt M p).s.da dn (jobAt M p).s.dc) DA ∧ (p < i → ∀ q, q < dn → (dpAt DA q).2 = 1000 + (p : Int)) ∧ (p = i → ∀ q, q < kk → (dpAt DA q).2 = 1000 + (p : Int))
def Off (a7 : Option Addr) (n : Nat) (M : List Job) : Prop := ∀ p, p < n → ∀ y, (jobAt M p).s.da = some y → ∀ z, a7 = some z → y.block ≠ z.block
theorem WS.put {W wr : World} {a7 : Option Addr} {n : Nat} {M : List Job} {dn i kk ga : Nat} (h : WS W wr a7 n M dn i kk) (hap : Apt M n) (hoff : Off a7 n M) (hi : i < n) (hkk : kk < dn) (he : (jobAt M i).s.da = some ⟨ga, 0, none⟩) :
    WS W (wr.setCell ⟨ga, kk * 2 + 1, none⟩ (.int .i64 (1000 + (i : Int)))) a7 n M dn i (kk + 1) := by
  obtain ⟨DA, h1, h2, h3, h4⟩ := h.own i hi
  rw [he] at h2
  have hbl := (owns_blk h2).1
  have kp := Kp.setCell (Kp.refl (fun k => k = ga) wr) (p := ⟨ga, kk * 2 + 1, none⟩) rfl (.int .i64 (1000 + (i : Int)))
  refine ⟨CAt.kp h.jat kp (fun x hx e => hoff i hi _ he x hx e.symm), Below.setCell h.bel (by dsimp only at hbl ⊢; omega) _, fun p hp => ?_⟩
  by_cases hpi : p = i
  · subst hpi
    refine ⟨DA.set kk ((dpAt DA kk).1, 1000 + (p : Int)), by rw [List.length_set]; exact h1, by rw [he]; exact h2.put h1 hkk _, fun hlt => absurd hlt (Nat.lt_irrefl _), fun _ q hq => ?_⟩
    rw [dpAt_set (by omega)]
    by_cases hqk : q = kk
    · rw [if_pos hqk]
    · rw [if_neg hqk]; exact h4 rfl q (by omega)
  · obtain ⟨DB, g1, g2, g3, g4⟩ := h.own p hp
    refine ⟨DB, g1, owns_kp g2 kp (fun k hk hS => ?_), g3, fun e => absurd e hpi⟩
    cases hd : (jobAt M p).s.da with
    | none => rw [hd] at hk; simp [Value.ownBlock] at hk
    | some y =>
      rw [hd, ownBlock_some] at hk
      simp only [Option.some.injEq] at hk
      rcases Nat.lt_or_ge p i with hlt | hge
      · have := hap p i hlt hi y _ hd he
        dsimp only at this; omega
      · have := hap i p (by omega) hp _ y he hd
        dsimp only at this; omega
theorem WS.next {W wr : World} {a7 : Option Addr} {n : Nat} {M : List Job} {dn i : Nat} (h : WS W wr a7 n M dn i dn) : WS W wr a7 n M dn (i + 1) 0 :=
  ⟨h.jat, h.bel, fun p hp => by
    obtain ⟨DA, h1, h2, h3, h4⟩ := h.own p hp
    refine ⟨DA, h1, h2, fun hlt q hq => ?_, fun _ q hq => absurd hq (Nat.not_lt_zero q)⟩
    by_cases e : p = i
    · exact h4 e q hq
    · exact h3 (by omega) q hq⟩
theorem WS.below {W wr w' : World} {a7 : Option Addr} {n : Nat} {M : List Job} {dn i kk : Nat} (h : WS W wr a7 n M dn i kk) (hb : Below wr.heap.size wr w') : WS W w' a7 n M dn i kk :=
  ⟨JAt.below h.jat hb, bnext h.bel hb, fun p hp => by
    obtain ⟨DA, h1, h2, h3⟩ := h.own p hp
    exact ⟨DA, h1, h2.below hb, h3⟩⟩

/-- How many jobs are told. -/
def numE (L : List Int) (id : Int) (s : Spc) (now : Int) : Nat := if exE L id s now = 0 then cntE L else 0
theorem numE_le (L : List Int) (id : Int) (s : Spc) (now : Int) : numE L id s now ≤ 32 := by
  unfold numE
  split
  · rename_i hE
    unfold exE at hE
    split at hE
    · exact absurd hE (by decide)
    · rename_i h1
      unfold cntE
      split
      · omega
      · rename_i h2
        cases hL : listB L
        · exact absurd (.inr (.inl ⟨by omega, hL⟩)) h1
        · have := ((listB_iff L).1 hL).2.1; omega
  · omega
theorem exJ_re (L : List Int) (id : Int) (s : Spc) (now : Int) (x x' : Option Addr) (y y' i : Nat) : (exJ L id (s.re x y) now i).re x' y' = (exJ L id s now i).re x' y' := by
  unfold exJ
  by_cases h : i < L.length
  · rw [if_pos h, if_pos h]; rfl
  · rw [if_neg h, if_neg h]; rfl
theorem exJ_dn (L : List Int) (id : Int) (s : Spc) (now : Int) (i : Nat) : (exJ L id s now i).s.dn = s.dn := by
  unfold exJ
  by_cases h : i < L.length
  · rw [if_pos h]
  · rw [if_neg h]; rfl

/-- What the code told: jobs whose dependencies are the call's own and lie apart. -/
structure TX (W w4 : World) (a7 : Option Addr) (n : Nat) (L : List Int) (id : Int) (s : Spc) (now : Int) (D : List Dp) (M : List Job) : Prop where
  ws : WS W w4 a7 n M s.dn 0 0
  len : M.length = n
  apt : Apt M n
  off : Off a7 n M
  dn : ∀ p, p < n → (jobAt M p).s.dn = s.dn
  job : ∀ p, p < n → ∃ x y, jobAt M p = (exJ L id s now p).re x y ∧ DAt w4 x D
theorem told_x {W w4 : World} {L : List Int} {id : Int} {s : Spc} {now : Int} {D : List Dp} {x : Option Addr} {y : Nat} {e : Ending} (hD : D.length = s.dn) (h : ExTold w4 W.heap.size L id (s.re x y) now D e) (hb : Below W.heap.size W w4) :
    ∃ a7 c7 M, e = .returned (.tuple #[.slice a7 (numE L id s now) c7, .int .i64 (exE L id s now)]) ∧ TX W w4 a7 (numE L id s now) L id s now D M := by
  have he : exE L id (s.re x y) now = exE L id s now := rfl
  rcases h with ⟨h1, rfl⟩ | ⟨h1, g, M, rfl, hM⟩
  · rw [he] at h1 ⊢
    have hn : numE L id s now = 0 := by unfold numE; rw [if_neg h1]
    rw [hn]
    exact ⟨none, 0, [], rfl, ⟨CAt.nil _ _, hb, fun p hp => absurd hp (Nat.not_lt_zero p)⟩, rfl, fun i j _ hj => absurd hj (Nat.not_lt_zero j), fun p hp => absurd hp (Nat.not_lt_zero p), fun p hp => absurd hp (Nat.not_lt_zero p), fun p hp => absurd hp (Nat.not_lt_zero p)⟩
  · rw [he] at h1
    have hn : numE L id s now = cntE L := by unfold numE; rw [if_pos h1]
    rw [hn, h1]
    have hjob : ∀ p, p < cntE L → ∃ x' y', jobAt M p = (exJ L id s now p).re x' y' ∧ DOwn w4 W.heap.size (.slice x' s.dn y') D ∧ ∀ z, x' = some z → g < z.block := fun p hp => by
      obtain ⟨x', y', e, _, ho, hz⟩ := hM.job p (by rw [hM.len]; exact hp)
      exact ⟨x', y', by rw [e]; exact exJ_re L id s now x x' y y' p, ho, fun z hzz => (hz z hzz).1⟩
    refine ⟨some ⟨g, 0, none⟩, cntE L, M, rfl, ⟨hM.row.jat, hb, fun p hp => ?_⟩, hM.len, by have := hM.apt; rw [hM.len] at this; exact this, fun p hp u hu z hz => ?_, fun p hp => ?_, fun p hp => ?_⟩
    · obtain ⟨x', y', e, ho, _⟩ := hjob p hp
      rw [e]
      exact ⟨D, hD, ho, fun h => absurd h (Nat.not_lt_zero p), fun _ q hq => absurd hq (Nat.not_lt_zero q)⟩
    · obtain ⟨x', y', e, ho, hg⟩ := hjob p hp
      rw [e] at hu
      cases hz
      exact Nat.ne_of_gt (hg u hu)
    · obtain ⟨x', y', e, _⟩ := hjob p hp
      rw [e]; exact exJ_dn L id s now p
    · obtain ⟨x', y', e, ho, _⟩ := hjob p hp
      exact ⟨x', y', e, ho.dat⟩
theorem told_r {w5 : World} {L : List Int} {id : Int} {s : Spc} {now : Int} {D : List Dp} {e : Ending} (h : RxTold w5 L id s now D e) :
    ∃ a9 c9 M, e = .returned (.tuple #[.slice a9 (numE L id s now) c9, .int .i64 (exE L id s now)]) ∧ JAt w5 a9 M ∧ M.length = numE L id s now ∧ ∀ p, p < numE L id s now → ∃ x y, jobAt M p = (exJ L id s now p).re x y ∧ DAt w5 x D := by
  rcases h with ⟨h1, rfl⟩ | ⟨h1, b, c, M, rfl, hM, hl, hj⟩
  · have hn : numE L id s now = 0 := by unfold numE; rw [if_neg h1]
    rw [hn]
    exact ⟨none, 0, [], rfl, CAt.nil _ _, rfl, fun p hp => absurd hp (Nat.not_lt_zero p)⟩
  · have hn : numE L id s now = cntE L := by unfold numE; rw [if_pos h1]
    rw [hn, h1]
    exact ⟨b, c, M, rfl, hM, hl, hj⟩
theorem kc_range {w : World} {g : Nat} {id now : Int} {s : Spc} (h : w.heap[g]? = some (.cells #[.int .i64 id, .string s.user, .string s.acct, .string s.qos, .string s.part, .int .i64 s.nodes, .int .i64 s.cores, .int .i64 s.lim, .slice s.da s.dn s.dc, .int .i64 now] 36 (0, 0))) : w.rangeAt g 1 (sc s) := fun r v hv => row_cell h (1 + r) v (by
  have hr : r < 8 := by
    rcases Nat.lt_or_ge r 8 with h1 | h1
    · exact h1
    · rw [List.getElem?_eq_none (by rw [sc_len]; exact h1)] at hv; cases hv
  obtain rfl | rfl | rfl | rfl | rfl | rfl | rfl | rfl : r = 0 ∨ r = 1 ∨ r = 2 ∨ r = 3 ∨ r = 4 ∨ r = 5 ∨ r = 6 ∨ r = 7 := by omega
  all_goals exact hv)
end Go.Proofs.YtomdghodbkhkaaaGreatDoor

namespace Go.Proofs.YtomdghodbkhkaaaGreatDoor
open Go.RowKit
set_option linter.unusedVariables false
set_option linter.unusedSimpArgs false

set_option maxRecDepth 100000 in
set_option maxHeartbeats 4000000 in
theorem jobs_any (id : Int) (a : Option Addr) (k c : Nat) (L : List Int) (s : Spc) (now : Int) (D : List Dp) (w : World) (hn : L.length = k) (hl : k * 8 ≤ 140737488355328) (hat : IAt w a L) (hD : D.length = s.dn) (hsl : s.dn * 16 ≤ 140737488355328) (hda : DAt w s.da D) (hid2 : id ≤ 9223372036854775807) (ht : Tb w) :
    Calls Tryz.prog 4 #[.agg (kc id s now).toArray, .slice a k c] w fun e w' => e = .returned (.bool true) ∧ Below w.heap.size w w' := by
  have B0 := below_lit w (.cells #[.int .i64 id, .string s.user, .string s.acct, .string s.qos, .string s.part, .int .i64 s.nodes, .int .i64 s.cores, .int .i64 s.lim, .slice s.da s.dn s.dc, .int .i64 now] 36)
  have hrow : (w.alloc (.cells #[.int .i64 id, .string s.user, .string s.acct, .string s.qos, .string s.part, .int .i64 s.nodes, .int .i64 s.cores, .int .i64 s.lim, .slice s.da s.dn s.dc, .int .i64 now] 36)).heap[w.heap.size]? = some (.cells #[.int .i64 id, .string s.user, .string s.acct, .string s.qos, .string s.part, .int .i64 s.nodes, .int .i64 s.cores, .int .i64 s.lim, .slice s.da s.dn s.dc, .int .i64 now] 36 (0, 0)) := heap_alloc_new w _
  have hlt0 := (Array.getElem?_eq_some_iff.1 hrow).1
  have hm0 := hid (kc_range hrow)
  have kC := copyspec s D (w.alloc (.cells #[.int .i64 id, .string s.user, .string s.acct, .string s.qos, .string s.part, .int .i64 s.nodes, .int .i64 s.cores, .int .i64 s.lim, .slice s.da s.dn s.dc, .int .i64 now] 36)) hD hsl (hda.below B0)
  change Calls Tryz.prog 4 #[.agg #[.int .i64 id, .string s.user, .string s.acct, .string s.qos, .string s.part, .int .i64 s.nodes, .int .i64 s.cores, .int .i64 s.lim, .slice s.da s.dn s.dc, .int .i64 now], .slice a k c] w _
  have hl2 : k ≤ 4611686018427387904 := by omega
  have hdl : s.dn ≤ 4611686018427387904 := by omega
  replace hrow := hid hrow
  replace hat := hid hat
  replace hda := hid hda
  replace hD := hid hD
  replace hn := hid hn
  replace ht := hid ht
  go_enter Tryz.func4, Tryz.ntmps4
  go_wp2_with (refine wpList_load_mid rfl 34 (.tmp 15) rfl w.heap.size 1 rfl (sc s) _ hm0.out Tryz.underlying34 rfl (by kernel_rfl) ?_)
  refine kC.mono ?_
  rintro e w1 ⟨x, y, rfl, hy, ho, hb1⟩
  have B1 := bnext B0 hb1
  have kI := copyints a k c L w1 hn.out hl (hat.out.below B1)
  replace ho := hid ho
  go_wp2_with fail
  refine kI.mono ?_
  rintro e w2 ⟨ra, rc, rfl, hrc, hoI, hb2⟩
  have B2 := bnext B1 hb2
  have row2 : w2.heap[w.heap.size]? = some (.cells #[.int .i64 id, .string s.user, .string s.acct, .string s.qos, .string s.part, .int .i64 s.nodes, .int .i64 s.cores, .int .i64 s.lim, .slice s.da s.dn s.dc, .int .i64 now] 36 (0, 0)) := by rw [hb2.block _ (Nat.lt_of_lt_of_le hlt0 hb1.size), hb1.block _ hlt0]; exact hrow.out
  have lt2 := (Array.getElem?_eq_some_iff.1 row2).1
  obtain ⟨S3, hS3⟩ : ∃ S3, S3 = (sc (s.re x y)).toArray := ⟨_, rfl⟩
  rw [← hS3]
  have hSa : S3.all (·.oneCell') = true := by rw [hS3]; exact sc_all _
  have hSs : S3.size = 8 := by rw [hS3]; rfl
  have u2 : (w2.alloc (.cells #[.string ⟨#[]⟩, .string ⟨#[]⟩, .string ⟨#[]⟩, .string ⟨#[]⟩, .int .i64 0, .int .i64 0, .int .i64 0, .slice none 0 0] 34)).heap[w2.heap.size]? = some (.cells #[.string ⟨#[]⟩, .string ⟨#[]⟩, .string ⟨#[]⟩, .string ⟨#[]⟩, .int .i64 0, .int .i64 0, .int .i64 0, .slice none 0 0] 34 (0, 0)) := heap_alloc_new w2 _
  have bl3 := below_lit w2 (.cells S3 34)
  have r3l := heap_alloc_new w2 (.cells S3 34)
  have row3l : (w2.alloc (.cells S3 34)).heap[w.heap.size]? = some (.cells #[.int .i64 id, .string s.user, .string s.acct, .string s.qos, .string s.part, .int .i64 s.nodes, .int .i64 s.cores, .int .i64 s.lim, .slice s.da s.dn s.dc, .int .i64 now] 36 (0, 0)) := by rw [bl3.block _ lt2]; exact row2
  have c0 := row_cell row3l 0 (.int .i64 id) rfl
  have c9 := row_cell row3l 9 (.int .i64 now) rfl
  obtain ⟨W3, hW3⟩ : ∃ W3, W3 = w2.alloc (.cells S3 34) := ⟨_, rfl⟩
  have B3 : Below w.heap.size w W3 := by rw [hW3]; exact bnext B2 bl3
  have b23 : Below w2.heap.size w2 W3 := by rw [hW3]; exact bl3
  have row3 : W3.heap[w.heap.size]? = some (.cells #[.int .i64 id, .string s.user, .string s.acct, .string s.qos, .string s.part, .int .i64 s.nodes, .int .i64 s.cores, .int .i64 s.lim, .slice s.da s.dn s.dc, .int .i64 now] 36 (0, 0)) := by rw [hW3]; exact row3l
  have r3 : W3.heap[w2.heap.size]? = some (.cells S3 34 (0, 0)) := by rw [hW3]; exact r3l
  have lt3 := (Array.getElem?_eq_some_iff.1 row3).1
  have lt3' := (Array.getElem?_eq_some_iff.1 r3).1
  have hoI3 := hoI.below b23
  have ho3 := (ho.out.below hb2).below b23
  have kX := expand_any id ra k rc L (s.re x y) now D W3 hn.out hl2 hoI3.iat hD.out hsl ho3.dat hid2
  rw [← hS3] at kX
  have hSe : Hid (S3 = (sc (s.re x y)).toArray) := hid hS3
  clear hS3 bl3
  replace row2 := hid row2
  replace u2 := hid u2
  replace r3l := hid r3l
  replace row3l := hid row3l
  replace row3 := hid row3
  replace r3 := hid r3
  replace hoI := hid hoI
  replace hoI3 := hid hoI3
  replace ho3 := hid ho3
  replace hSa := hid hSa
  replace hSs := hid hSs
  replace hW3 := hid hW3
  go_wp2_with (first | (refine wpList_store_row rfl 34 (.tmp 5) (.tmp 17) rfl w2.heap.size S3 rfl rfl 34 _ u2.out (by rw [hSs.out]; kernel_rfl) (by rw [hSs.out]; rfl) hSa.out ?_; rw [alloc_setRow]) | (refine wpList_load_row rfl 34 (.tmp 5) rfl w2.heap.size rfl 34 S3 (0, 0) _ r3l.out Tryz.underlying34 rfl (by rw [hSs.out]; kernel_rfl) ?_))
  (try rw [← hW3.out])
  clear c0 c9
  refine kX.mono ?_
  rintro e w4 ⟨hX, hb4⟩
  obtain ⟨a7, c7, M, rfl, hTX⟩ := told_x hD.out hX hb4
  have hnE := numE_le L id s now
  have B4 := bnext B3 hb4
  have row4 := row3.out
  rw [← hb4.block _ lt3] at row4
  have c0 := row_cell row4 0 (.int .i64 id) rfl
  have c9 := row_cell row4 9 (.int .i64 now) rfl
  have hm4 := hid (kc_range row4)
  have kR := rexpand_any id a k c L s now D w4 hn.out hl2 (hat.out.below B4) hD.out hsl (hda.out.below B4) hid2
  replace row4 := hid row4
  replace hTX := hid hTX
  clear hX
  go_wp2_with (refine wpList_load_mid rfl 34 (.tmp 34) rfl w.heap.size 1 rfl (sc s) _ hm4.out Tryz.underlying34 rfl (by kernel_rfl) ?_)
  refine kR.mono ?_
  rintro e w5 ⟨hR, hb5⟩
  obtain ⟨a9, c9', M9, rfl, hj9, hl9, ht9⟩ := told_r hR
  clear hR
  have hTw : Twin w5 (numE L id s now) M M9 := fun p hp => by
    obtain ⟨x1, y1, e1, d1⟩ := hTX.out.job p hp
    obtain ⟨x2, y2, e2, d2⟩ := ht9 p hp
    exact ⟨exJ L id s now p, D, x1, x2, y1, y2, e1, e2, by rw [exJ_dn]; exact hD.out, by rw [exJ_dn]; exact hdl, CAt.below d1 hb5, d2⟩
  have hws5 := hid (hTX.out.ws.below hb5)
  have hML := hid hTX.out.len
  have hAp := hid hTX.out.apt
  have hOff := hid hTX.out.off
  have hdn := hid hTX.out.dn
  clear hTX ht9
  generalize numE L id s now = n at *
  generalize exE L id s now = E at *
  have kJ := samejobs a7 a9 n c7 c9' M M9 w5 hML.out hl9 (by omega) hws5.out.jat hj9 hTw
  have hEE : (E != E) = false := by simp
  replace hj9 := hid hj9
  replace hl9 := hid hl9
  replace hTw := hid hTw
  clear c0 c9
  go_wp2_with fail
  refine kJ.mono ?_
  rintro e w6 ⟨rfl, hb6⟩
  have ws6 := hid (hws5.out.below hb6)
  clear hws5 hb6 hb5
  go_wp2_with fail
  go_loopw [11] (fun i wr => ∃ j : Nat, j ≤ n ∧ i = .int .i64 (j : Int) ∧ Hid (WS W3 wr a7 n M s.dn j 0)) (fun i _ => n - (intOf i).toNat)
  case atStart => exact ⟨0, Nat.zero_le _, rfl, ws6⟩
  case round =>
    obtain ⟨j, hj, rfl, hws⟩ := hrel
    by_cases hlt : j < n
    · have hjM : j < M.length := by rw [hML.out]; exact hlt
      obtain ⟨b, o, e⟩ := hws.out.jat.place (by omega)
      subst e
      have hdnj := hdn.out j hlt
      go_wp2_with fail
      go_loopw [12] (fun i wr => ∃ q : Nat, q ≤ s.dn ∧ i = .int .i64 (q : Int) ∧ Hid (WS W3 wr (some ⟨b, o, none⟩) n M s.dn j q)) (fun i _ => s.dn - (intOf i).toNat)
      case atStart => exact ⟨0, Nat.zero_le _, rfl, hws⟩
      case round =>
        clear hws
        obtain ⟨q, hq, rfl, hws⟩ := hrel
        have c10 : wr.cell? ⟨b, o + j * 17 + 10, none⟩ = some (.slice (jobAt M j).s.da s.dn (jobAt M j).s.dc) := by
          have := hws.out.jat.cell hjM 10 (by omega)
          rw [this]
          show some (Value.slice (jobAt M j).s.da (jobAt M j).s.dn (jobAt M j).s.dc) = _
          rw [hdnj]
        by_cases hlt2 : q < s.dn
        · obtain ⟨DA, k1, k2, k3, k4⟩ := hws.out.own j hlt
          have k2' := k2
          unfold DOwn at k2'
          rw [k1] at k2'
          obtain ⟨ga, gc, e1, e2, e3, e4, e5⟩ := owns_spot k2' (by omega)
          simp only [Value.slice.injEq] at e1
          obtain ⟨e1, _, _⟩ := e1
          have k6 := k2
          rw [e1] at k6 c10
          obtain ⟨x1, x2⟩ := (k6.dat).one (i := q) (by rw [k1]; exact hlt2)
          rw [Nat.zero_add] at x1 x2
          have hput := hid (hws.out.put hAp.out hOff.out hlt hlt2 e1)
          have fz := e5 (q * 2 + 1)
          replace e1 := hid e1
          replace k1 := hid k1
          replace k2 := hid k2
          replace k6 := hid k6
          replace k2' := hid k2'
          replace e5 := hid e5
          replace k3 := hid k3
          replace k4 := hid k4
          replace hdnj := hid hdnj
          generalize (jobAt M j).s.dc = dcj at *
          generalize dpAt DA q = dq at *
          go_wp2_with fail
          go_roundw
          case rel => exact ⟨q + 1, by omega, by go_num, hput⟩
          case measure => simp [intOf]; omega
        · have hqe : q = s.dn := by omega
          rw [hqe] at hws
          have hnx := hid hws.out.next
          clear hws
          have dq : decide (((q : Nat) : Int) < ((s.dn : Nat) : Int)) = false := decide_eq_false (by omega)
          replace hqe := hid hqe
          replace hdnj := hid hdnj
          go_wp2_with fail
          go_roundw
          case rel => exact ⟨j + 1, by omega, by go_num, hnx⟩
          case measure => simp [intOf]; omega
    · have hje : j = n := by omega
      rw [hje] at hws
      have dj : decide (((j : Nat) : Int) < ((n : Nat) : Int)) = false := decide_eq_false (by omega)
      replace hje := hid hje
      go_wp2_with fail
      go_loopw [13] (fun i wz => ∃ p : Nat, p ≤ n ∧ i = .int .i64 (p : Int) ∧ Hid (WS W3 wz a7 n M s.dn n 0)) (fun i _ => n - (intOf i).toNat)
      case atStart => exact ⟨0, Nat.zero_le _, rfl, hws⟩
      case round =>
        clear hws
        obtain ⟨p, hp, rfl, hws⟩ := hrel
        by_cases hlt : p < n
        · have hpM : p < M.length := by rw [hML.out]; exact hlt
          obtain ⟨b, o, e⟩ := hws.out.jat.place (by omega)
          subst e
          have hdnp := hdn.out p hlt
          go_wp2_with fail
          go_loopw [14] (fun i wz => ∃ q : Nat, q ≤ s.dn ∧ i = .int .i64 (q : Int) ∧ Hid (WS W3 wz (some ⟨b, o, none⟩) n M s.dn n 0)) (fun i _ => s.dn - (intOf i).toNat)
          case atStart => exact ⟨0, Nat.zero_le _, rfl, hws⟩
          case round =>
            clear hws
            obtain ⟨q, hq, rfl, hws⟩ := hrel
            have c10 : wr.cell? ⟨b, o + p * 17 + 10, none⟩ = some (.slice (jobAt M p).s.da s.dn (jobAt M p).s.dc) := by
              have := hws.out.jat.cell hpM 10 (by omega)
              rw [this]
              show some (Value.slice (jobAt M p).s.da (jobAt M p).s.dn (jobAt M p).s.dc) = _
              rw [hdnp]
            by_cases hlt2 : q < s.dn
            · obtain ⟨DA, k1, k2, k3, k4⟩ := hws.out.own p hlt
              have k2' := k2
              unfold DOwn at k2'
              rw [k1] at k2'
              obtain ⟨ga, gc, e1, e2, e3, e4, e5⟩ := owns_spot k2' (by omega)
              simp only [Value.slice.injEq] at e1
              obtain ⟨e1, _, _⟩ := e1
              have k6 := k2
              rw [e1] at k6 c10
              obtain ⟨x1, x2⟩ := (k6.dat).one (i := q) (by rw [k1]; exact hlt2)
              rw [Nat.zero_add] at x1 x2
              rw [k3 hlt q hlt2] at x2
              have hpp : ((1000 + (p : Int)) != (1000 + (p : Int))) = false := by simp
              replace e1 := hid e1
              replace k1 := hid k1
              replace k2 := hid k2
              replace k6 := hid k6
              replace k2' := hid k2'
              replace e5 := hid e5
              replace k3 := hid k3
              replace k4 := hid k4
              replace hdnp := hid hdnp
              generalize (jobAt M p).s.dc = dcj at *
              go_wp2_with fail
              go_roundw
              case rel => exact ⟨q + 1, by omega, by go_num, hws⟩
              case measure => simp [intOf]; omega
            · have hqe : q = s.dn := by omega
              have dq : decide (((q : Nat) : Int) < ((s.dn : Nat) : Int)) = false := decide_eq_false (by omega)
              replace hqe := hid hqe
              replace hdnp := hid hdnp
              go_wp2_with fail
              go_roundw
              case rel => exact ⟨p + 1, by omega, by go_num, hws⟩
              case measure => simp [intOf]; omega
        · have hpe : p = n := by omega
          have dp : decide (((p : Nat) : Int) < ((n : Nat) : Int)) = false := decide_eq_false (by omega)
          replace hpe := hid hpe
          have bel := hws.out.bel
          have B8 := bnext B3 bel
          have row8 : wr.heap[w.heap.size]? = some (.cells #[.int .i64 id, .string s.user, .string s.acct, .string s.qos, .string s.part, .int .i64 s.nodes, .int .i64 s.cores, .int .i64 s.lim, .slice s.da s.dn s.dc, .int .i64 now] 36 (0, 0)) := by rw [bel.block _ lt3]; exact row3.out
          have r8 : wr.heap[w2.heap.size]? = some (.cells S3 34 (0, 0)) := by rw [bel.block _ lt3']; exact r3.out
          have hm8 := hid (kc_range row8)
          have kS := samespec s D x y wr hD.out hdl (CAt.below ho3.out.dat bel) (hda.out.below B8)
          rw [← hSe.out] at kS
          replace row8 := hid row8
          replace r8 := hid r8
          go_wp2_with (first | (refine wpList_load_row rfl 34 (.tmp 5) rfl w2.heap.size rfl 34 S3 (0, 0) _ r8.out Tryz.underlying34 rfl (by rw [hSs.out]; kernel_rfl) ?_) | (refine wpList_load_mid rfl 34 (.tmp 109) rfl w.heap.size 1 rfl (sc s) _ hm8.out Tryz.underlying34 rfl (by kernel_rfl) ?_))
          refine kS.mono ?_
          rintro e w9 ⟨rfl, hb9⟩
          have kT := sameints ra a k rc c L w9 hn.out hl2 (IAt.below (IAt.below hoI3.out.iat bel) hb9) (hat.out.below (bnext B8 hb9))
          go_wp2_with fail
          refine kT.mono ?_
          rintro e w10 ⟨rfl, hb10⟩
          have B10 := bnext (bnext B8 hb9) hb10
          have kA := awake_any w10 (ht.out.below B10)
          go_wp2_with fail
          refine kA.mono ?_
          rintro e w11 ⟨rfl, hb11⟩
          go_wp2
          go_ret
          exact ⟨rfl, bnext B10 hb11⟩
end Go.Proofs.YtomdghodbkhkaaaGreatDoor
