/- indexes: those of runs, index by index. -/
import Derived.Test.YtomdghodbkhkaaaGreatDoorRuns
import Derived.Shelf.Sort.Plain
import Derived.Test.YtomdghodbkhkaaaGreatDoorBase
import Derived.Sort.OwnSortedInts
namespace Go.Proofs.YtomdghodbkhkaaaGreatDoor
open Go.RowKit
set_option linter.unusedVariables false
set_option linter.unusedSimpArgs false

theorem flat_drop {rs : List Run} {j : Nat} (h : j < rs.length) : flat (rs.drop j) = idx (runAt rs j) ++ flat (rs.drop (j + 1)) := by
  rw [List.drop_eq_getElem_cons h, runAt_eq h]
  rfl
theorem cs_has (l : List Nat) (n : Nat) : (cs l).contains ((n : Nat) : Int) = decide (n ∈ l) := by
  rw [Bool.eq_iff_iff]
  simp only [cs, List.contains_iff_mem, List.mem_map, decide_eq_true_eq]
  constructor
  · rintro ⟨a, h1, h2⟩
    obtain rfl : a = n := Int.ofNat.inj h2
    exact h1
  · exact fun h => ⟨n, h, rfl⟩
theorem cs_ic (l : List Nat) (n : Nat) : (cs (l ++ [n])).flatMap ic = (cs l).flatMap ic ++ [.int .i64 (n : Int)] := by
  rw [cs_app, List.flatMap_append]; rfl
theorem contains_any (a : Option Addr) (n c : Nat) (l : List Nat) (x : Nat) (w : World) (hn : l.length = n) (hl : n ≤ 1000) (hat : IAt w a (cs l)) :
    Calls Tryz.prog 38 #[.slice a n c, .int .i64 (x : Int)] w fun e w' => e = .returned (.bool (decide (x ∈ l))) ∧ w' = w := by
  rcases Nat.eq_zero_or_pos n with h0 | h0
  · subst h0
    have hl0 : l = [] := List.eq_nil_of_length_eq_zero hn
    subst hl0
    exact contains_none a c x w
  · obtain ⟨b, o, rfl⟩ := hat.place (by rw [cs_len]; omega)
    have k := contains_lib b o n c (cs l) x w (by rw [cs_len]; omega) (by omega) (fun j hj => by
      have := hat.one hj
      exact this)
    rw [show (cs l).take n = cs l from List.take_of_length_le (by rw [cs_len]; omega), cs_has] at k
    exact k

/-- What is left of the indexes. -/
def AI (rs : List Run) (rest l : List Nat) : Prop := addS (flat rs) [] = addS rest l
theorem AI.twice {rs : List Run} {n : Nat} {t l : List Nat} (h : AI rs (n :: t) l) (hm : n ∈ l) : addS (flat rs) [] = ([], 140) := by
  unfold AI at h; rw [h, addS, if_pos hm]
theorem AI.long {rs : List Run} {n : Nat} {t l : List Nat} (h : AI rs (n :: t) l) (hm : n ∉ l) (hl : 32 ≤ l.length) : addS (flat rs) [] = ([], 3) := by
  unfold AI at h; rw [h, addS, if_neg hm, if_pos hl]
theorem AI.next {rs : List Run} {n : Nat} {t l : List Nat} (h : AI rs (n :: t) l) (hm : n ∉ l) (hl : l.length < 32) : AI rs t (l ++ [n]) := by
  unfold AI at *; rw [h, addS, if_neg hm, if_neg (by omega)]

theorem idx_drop {r : Run} {i : Nat} (h : i < (r.2.1 - r.1) / r.2.2 + 1) : (idx r).drop i = (r.1 + r.2.2 * i) :: (idx r).drop (i + 1) := by
  have hl : (idx r).length = (r.2.1 - r.1) / r.2.2 + 1 := by simp [idx]
  rw [List.drop_eq_getElem_cons (by rw [hl]; exact h)]
  congr 1
  simp [idx]
theorem idx_end (r : Run) : (idx r).drop ((r.2.1 - r.1) / r.2.2 + 1) = [] := List.drop_eq_nil_of_le (by simp [idx])
theorem ix_le {a b s i : Nat} (hab : a ≤ b) (hs : 1 ≤ s) : a + s * i ≤ b ↔ i < (b - a) / s + 1 := by
  rw [Nat.lt_succ_iff, Nat.le_div_iff_mul_le (by omega), Nat.mul_comm]
  omega

theorem own_not {w : World} {base n g : Nat} {v : Value} {xs : List Value} {a b c : Int} (h : w.ownsRow base 3 1 v n xs) (hr : RB w g a b c) : v.ownBlock ≠ some g := by
  intro e
  rcases h.2 with ⟨rfl, _⟩ | ⟨g2, cap, cur, rfl, _, hg, _⟩
  · cases e
  · have e2 : g2 = g := by
      have h3 : (some g2 : Option Nat) = some g := e
      simpa using h3
    subst e2
    unfold RB at hr
    rw [hr] at hg
    simp at hg

/-- What indexes tells. -/
def IxTold (W : World) (base : Nat) (A : List Nat × Int) (e : Ending) : Prop :=
  (A.2 ≠ 0 ∧ e = .returned (.tuple #[.slice none 0 0, .int .i64 A.2])) ∨ (A.2 = 0 ∧ ∃ a n c, e = .returned (.tuple #[.slice a n c, .int .i64 0]) ∧ n = A.1.length ∧ IOwn W base (.slice a n c) (cs A.1))

def okRuns (rs : List Run) : Prop := ∀ j, j < rs.length → (runAt rs j).1 ≤ (runAt rs j).2.1 ∧ (runAt rs j).2.1 ≤ 9999 ∧ 1 ≤ (runAt rs j).2.2 ∧ (runAt rs j).2.2 ≤ 9999

set_option maxRecDepth 100000 in
set_option maxHeartbeats 4000000 in
theorem indexes_any (a0 : Option Addr) (k c0 : Nat) (rs : List Run) (w : World) (hn : rs.length = k) (hk : k ≤ 1000) (hat : NRAt w a0 rs) (hok : okRuns rs) :
    Calls Tryz.prog 18 #[.slice a0 k c0] w fun e w' => IxTold w' w.heap.size (addS (flat rs) []) e ∧ Below w.heap.size w w' := by
  obtain ⟨i0, hi0, hz0, hz1, hz2⟩ := info_parts info3
  obtain ⟨AA, hAA⟩ : ∃ AA, AA = addS (flat rs) [] := ⟨_, rfl⟩
  rw [← hAA]
  replace hn := hid hn
  replace hat := hid hat
  replace hok := hid hok
  replace hAA := hid hAA
  go_enter Tryz.func18, Tryz.ntmps18
  go_wp2_with fail
  go_loopw [4, 10] (fun v i wr => ∃ (j : Nat) (l : List Nat) (a : Option Addr) (n c : Nat), j ≤ k ∧ i = .int .i64 (j : Int) ∧ v = .slice a n c ∧ Hid (l.length = n) ∧ n ≤ 32 ∧ Hid (wr.ownsRow w.heap.size 3 1 v n ((cs l).flatMap ic)) ∧ Hid (AI rs (flat (rs.drop j)) l) ∧ Below w.heap.size w wr) (fun _ i _ => k - (intOf i).toNat)
  case atStart => exact ⟨0, [], none, 0, 0, Nat.zero_le _, rfl, rfl, hid rfl, by omega, hid (World.ownsRow_nil _ _ _ _), hid rfl, Below.refl _ _⟩
  case round =>
    obtain ⟨j, l, a, n, c, hj, rfl, rfl, hln, hn32, hown, hai, hb⟩ := hrel
    by_cases hlt : j < k
    · have hjr : j < rs.length := by rw [hn.out]; exact hlt
      obtain ⟨b, o, e⟩ := hat.out.place (by omega)
      subst e
      obtain ⟨x0, x1, x2⟩ := (hat.out.below hb).one hjr
      obtain ⟨ok1, ok2, ok3, ok4⟩ := hok.out j hjr
      have hfd := flat_drop hjr
      obtain ⟨r, hr⟩ : ∃ r, r = runAt rs j := ⟨_, rfl⟩
      rw [← hr] at x0 x1 x2 ok1 ok2 ok3 ok4 hfd
      replace hr := hid hr
      obtain ⟨ra, rb, rd⟩ := r
      simp only at x0 x1 x2 ok1 ok2 ok3 ok4
      have hai2 := hai.out
      rw [hfd] at hai2
      replace hfd := hid hfd
      replace hai2 := hid hai2
      clear hai
      obtain ⟨wo, hwo⟩ : ∃ wo, wo = wr := ⟨_, rfl⟩
      subst hwo
      have rb6 := RB.new wo (ra : Int) (rb : Int) (rd : Int)
      have bl6 := below_lit wo (.cells #[.int .i64 (ra : Int), .int .i64 (rb : Int), .int .i64 (rd : Int)] 64)
      have own6 := hid (owns_below hown.out bl6)
      have hb6 := bnext hb bl6
      have lt6 := rb6.lt
      replace rb6 := hid rb6
      obtain ⟨g6, hg6⟩ : ∃ g6, g6 = wo.heap.size := ⟨_, rfl⟩
      go_wp2_with fail
      go_loopw [4, 7] (fun v x wr => ∃ (i X : Nat) (l2 : List Nat) (a2 : Option Addr) (n2 c2 : Nat), i ≤ (rb - ra) / rd + 1 ∧ X = ra + rd * i ∧ X ≤ 20000 ∧ x = .int .i64 (X : Int) ∧ v = .slice a2 n2 c2 ∧ Hid (l2.length = n2) ∧ n2 ≤ 32 ∧ Hid (wr.ownsRow w.heap.size 3 1 v n2 ((cs l2).flatMap ic)) ∧ Hid (AI rs ((idx (ra, rb, rd)).drop i ++ flat (rs.drop (j + 1))) l2) ∧ Hid (RB wr wo.heap.size (ra : Int) (rb : Int) (rd : Int)) ∧ Below w.heap.size w wr) (fun _ x _ => 30000 - (intOf x).toNat)
      case atStart => exact ⟨0, ra, l, a, n, c, Nat.zero_le _, by rw [Nat.mul_zero, Nat.add_zero], by omega, rfl, rfl, hln, hn32, own6, hai2, rb6, hb6⟩
      case round =>
        obtain ⟨i, X, l2, a2, n2, c2, hi, hX, hX2, rfl, rfl, hln2, hn2, hown2, hai3, hrb, hb2⟩ := hrel
        obtain ⟨y0, y1, y2⟩ := hrb.out.cells
        have hle := ix_le (i := i) ok1 ok3
        rw [← hX] at hle
        by_cases hlt2 : i < (rb - ra) / rd + 1
        · have hXb : X ≤ rb := hle.2 hlt2
          have dX : decide ((X : Int) ≤ (rb : Int)) = true := decide_eq_true (by omega)
          have hai4 := hai3.out
          rw [idx_drop hlt2] at hai4
          simp only [List.cons_append] at hai4
          rw [← hX] at hai4
          have hX3 : X + rd = ra + rd * (i + 1) := by rw [hX, Nat.mul_succ]; omega
          have hat2 : IAt wr a2 (cs l2) := owns_cat hown2.out
          have kc := contains_any a2 n2 c2 l2 X wr hln2.out (by omega) hat2
          have h20 := hid (fun hm => AI.twice hai4 hm)
          have h21 := hid (fun hm hl => AI.long hai4 hm hl)
          have h22 := hid (fun hm hl => AI.next hai4 hm hl)
          clear hai4 hai3 hle hat2
          replace hX := hid hX
          replace hX3 := hid hX3
          replace hi := hid hi
          replace hlt2 := hid hlt2
          by_cases hm : X ∈ l2
          · have hfin := hid (show AA = ([], 140) by rw [hAA.out]; exact h20.out hm)
            rw [show decide (X ∈ l2) = true from decide_eq_true hm] at kc
            replace hm := hid hm
            go_wp2_with fail
            refine kc.mono ?_
            rintro e w2 ⟨rfl, rfl⟩
            go_wp2
            go_ret2
            rw [hfin.out]
            exact ⟨.inl ⟨by decide, rfl⟩, hb2⟩
          · rw [show decide (X ∈ l2) = false from decide_eq_false hm] at kc
            by_cases hlen : 32 ≤ n2
            · have hfin := hid (show AA = ([], 3) by rw [hAA.out]; exact h21.out hm (by rw [hln2.out]; exact hlen))
              have dn : decide ((32 : Int) ≤ (n2 : Int)) = true := decide_eq_true (by omega)
              replace hm := hid hm
              go_wp2_with fail
              refine kc.mono ?_
              rintro e w2 ⟨rfl, rfl⟩
              go_wp2
              go_ret2
              rw [hfin.out]
              exact ⟨.inl ⟨by decide, rfl⟩, hb2⟩
            · have dn : decide ((32 : Int) ≤ (n2 : Int)) = false := decide_eq_false (by omega)
              have hnx := h22.out hm (by rw [hln2.out]; omega)
              replace hnx := hid hnx
              replace hm := hid hm
              clear h20 h21 h22
              go_wp2_with fail
              refine kc.mono ?_
              rintro e w2 ⟨rfl, rfl⟩
              have bl := below_lit w2 (.cells #[.int .i64 (X : Int)] 3)
              have hown3 := hid (owns_below hown2.out bl)
              have hcl := hid (cat_lit w2 3 [.int .i64 (X : Int)] _ rfl)
              have hone := hid (one_I (X : Int))
              have hbase : w.heap.size ≤ (w2.alloc (.cells #[.int .i64 (X : Int)] 3)).heap.size := Nat.le_trans hb2.size bl.size
              have hmax : n2 + 1 ≤ maxLen := by unfold maxLen; omega
              go_wp2_with (refine wpList_cat _ rfl (.tmp 30) (.tmp 32) 22 rfl w.heap.size 3 i0 _ 1 8 Tryz.underlying22 hi0 hz0 hz1 hz2 rfl (by omega) (.slice a2 n2 c2) n2 ((cs l2).flatMap ic) rfl hown3.out (some ⟨w2.heap.size, 0, none⟩) 1 1 _ rfl rfl hcl.out hone.out hmax (by omega) hbase ?_)
              intro v7 w7 hr7 hg7 hv7
              obtain ⟨a7, c7, e7, hc7⟩ := owns_form hr7
              subst e7
              have hb7 : Below w.heap.size w w7 := (bnext hb2 bl).trans ((Kp.grown hg7).below (fun x hx => (World.ownsRow.lt hown3.out x hx).1) hbase)
              have hrb7 := hid ((hrb.out.below bl).kp (Kp.grown hg7) (fun e => own_not hown3.out (hrb.out.below bl) e))
              rw [← cs_ic] at hr7
              replace hr7 := hid hr7
              have hl7 := hid (show (l2 ++ [X]).length = n2 + 1 by rw [List.length_append, List.length_singleton, hln2.out])
              obtain ⟨z0, z1, z2⟩ := hrb7.out.cells
              go_wp2_with fail
              go_roundw
              case rel => exact ⟨i + 1, X + rd, l2 ++ [X], a7, n2 + 1, c7, hlt2.out, hX3.out, by omega, by go_num, rfl, hl7, by omega, hr7, hnx, hrb7, hb7⟩
              case measure => simp [intOf]; omega
        · have hie : i = (rb - ra) / rd + 1 := by omega
          have hnl : ¬ X ≤ rb := fun h => hlt2 (hle.1 h)
          have dX : decide ((X : Int) ≤ (rb : Int)) = false := decide_eq_false (by omega)
          have hai4 : AI rs (flat (rs.drop (j + 1))) l2 := by
            have h := hai3.out
            rw [hie, idx_end (ra, rb, rd), List.nil_append] at h
            exact h
          replace hai4 := hid hai4
          clear hai3 hle hlt2
          replace hX := hid hX
          replace hie := hid hie
          replace hi := hid hi
          go_wp2_with fail
          go_roundw
          case rel => exact ⟨j + 1, l2, a2, n2, c2, by omega, by go_num, rfl, hln2, hn2, hown2, hai4, hb2⟩
          case measure => simp [intOf]; omega
    · have hje : j = k := by omega
      have hfin := hid (show AA = (l, 0) by
        have h := hai.out
        rw [hje, ← hn.out, List.drop_length] at h
        rw [hAA.out]; exact h)
      subst hje
      go_wp2
      go_ret2
      rw [hfin.out]
      exact ⟨.inr ⟨rfl, a, n, c, rfl, hln.out.symm, by unfold IOwn; rw [cs_len, hln.out]; exact hown.out⟩, hb⟩
end Go.Proofs.YtomdghodbkhkaaaGreatDoor

namespace Go.Proofs.YtomdghodbkhkaaaGreatDoor
open Go.Shelf Go.RowKit Go.Lib Go.Sort
def lays189_ren : Go.Shelf.Ren := ⟨fun | 189 => 19 | 125 => 40 | 257 => 39 | 128 => 65 | 129 => 66 | 294 => 56 | 295 => 57 | 296 => 58 | 297 => 59 | 298 => 60 | 299 => 61 | 216 => 62 | 300 => 63 | 301 => 64 | 328 => 78 | 329 => 79 | 330 => 80 | 331 => 81 | 332 => 82 | 215 => 83 | 343 => 94 | n => n, fun | 28 => 22 | 3 => 3 | 46 => 81 | 0 => 0 | 51 => 43 | 53 => 112 | 4 => 4 | 183 => 104 | 182 => 103 | 131 => 97 | 5 => 5 | 9 => 9 | 218 => 119 | 222 => 123 | 228 => 135 | 229 => 136 | n => n, fun | n => n⟩
theorem lays189 : Go.Proofs.Lays.n189 Tryz.prog lays189_ren := {
  mixed := by kernel_rfl
  f125 := Tryz.func40.trans (congrArg some (by kernel_rfl))
  f128 := Tryz.func65.trans (congrArg some (by kernel_rfl))
  f129 := Tryz.func66.trans (congrArg some (by kernel_rfl))
  f189 := Tryz.func19.trans (congrArg some (by kernel_rfl))
  f215 := Tryz.func83.trans (congrArg some (by kernel_rfl))
  f216 := Tryz.func62.trans (congrArg some (by kernel_rfl))
  f257 := Tryz.func39.trans (congrArg some (by kernel_rfl))
  f294 := Tryz.func56.trans (congrArg some (by kernel_rfl))
  f295 := Tryz.func57.trans (congrArg some (by kernel_rfl))
  f296 := Tryz.func58.trans (congrArg some (by kernel_rfl))
  f297 := Tryz.func59.trans (congrArg some (by kernel_rfl))
  f298 := Tryz.func60.trans (congrArg some (by kernel_rfl))
  f299 := Tryz.func61.trans (congrArg some (by kernel_rfl))
  f300 := Tryz.func63.trans (congrArg some (by kernel_rfl))
  f301 := Tryz.func64.trans (congrArg some (by kernel_rfl))
  f328 := Tryz.func78.trans (congrArg some (by kernel_rfl))
  f329 := Tryz.func79.trans (congrArg some (by kernel_rfl))
  f330 := Tryz.func80.trans (congrArg some (by kernel_rfl))
  f331 := Tryz.func81.trans (congrArg some (by kernel_rfl))
  f332 := Tryz.func82.trans (congrArg some (by kernel_rfl))
  f343 := Tryz.func94.trans (congrArg some (by kernel_rfl))
  t0 := Tryz.underlying0
  a0 := Tryz.isAgg0
  z0 := Tryz.sizeOf0
  v0 := Tryz.zeroValue0
  t3 := Tryz.underlying3
  a3 := Tryz.isAgg3
  z3 := Tryz.sizeOf3
  v3 := Tryz.zeroValue3
  t4 := Tryz.underlying4
  a4 := Tryz.isAgg4
  z4 := Tryz.sizeOf4
  v4 := Tryz.zeroValue4
  t5 := Tryz.underlying5
  a5 := Tryz.isAgg5
  z5 := Tryz.sizeOf5
  v5 := Tryz.zeroValue5
  t9 := Tryz.underlying9
  a9 := Tryz.isAgg9
  z9 := Tryz.sizeOf9
  v9 := Tryz.zeroValue9
  t28 := Tryz.underlying22
  a28 := Tryz.isAgg22
  z28 := Tryz.sizeOf22
  v28 := Tryz.zeroValue22
  t46 := Tryz.underlying81
  a46 := Tryz.isAgg81
  z46 := Tryz.sizeOf81
  v46 := Tryz.zeroValue81
  t51 := Tryz.underlying43
  a51 := Tryz.isAgg43
  z51 := Tryz.sizeOf43
  v51 := Tryz.zeroValue43
  t53 := Tryz.underlying112
  a53 := Tryz.isAgg112
  z53 := Tryz.sizeOf112
  v53 := Tryz.zeroValue112
  t131 := Tryz.underlying97
  a131 := Tryz.isAgg97
  z131 := Tryz.sizeOf97
  v131 := Tryz.zeroValue97
  t182 := Tryz.underlying103
  a182 := Tryz.isAgg103
  z182 := Tryz.sizeOf103
  v182 := Tryz.zeroValue103
  t183 := Tryz.underlying104
  a183 := Tryz.isAgg104
  z183 := Tryz.sizeOf104
  v183 := Tryz.zeroValue104
  t218 := Tryz.underlying119
  a218 := Tryz.isAgg119
  z218 := Tryz.sizeOf119
  v218 := Tryz.zeroValue119
  t222 := Tryz.underlying123
  a222 := Tryz.isAgg123
  z222 := Tryz.sizeOf123
  v222 := Tryz.zeroValue123
  t228 := Tryz.underlying135
  a228 := Tryz.isAgg135
  z228 := Tryz.sizeOf135
  v228 := Tryz.zeroValue135
  t229 := Tryz.underlying136
  a229 := Tryz.isAgg136
  z229 := Tryz.sizeOf136
  v229 := Tryz.zeroValue136 }
theorem sort_lib (blk off cap : Nat) (zs : List Int) (w : World) (hH : Holds (Value.int .i64) w blk off zs.toArray) (hblk : blk < w.heap.size) (hsz : zs.length < 4611686018427387904) :
    Calls Tryz.prog 19 #[.slice (some ⟨blk, off, none⟩) zs.length cap] w fun e w' =>
      e = .returned (.tuple #[]) ∧ ∃ n os, w' = grow (putRow (Value.int .i64) (Sort.ahead w n) blk off (zs.mergeSort fun x y => decide (x ≤ y)).toArray) os := Any.slices_Sort_int lays189 blk off cap zs w hH hblk hsz
end Go.Proofs.YtomdghodbkhkaaaGreatDoor

namespace Go.Proofs.YtomdghodbkhkaaaGreatDoor
open Go.RowKit Go.Sort
set_option linter.unusedVariables false
set_option linter.unusedSimpArgs false

theorem sort_cs (l : List Nat) (h : l.Nodup) : ((cs l).mergeSort fun x y => decide (x ≤ y)) = cs (sortS l) := by
  refine List.Perm.eq_of_pairwise (le := fun a b => decide (a ≤ b) = true) (fun a b _ _ h1 h2 => ?_) (List.pairwise_mergeSort ?_ ?_ _) ?_ ((List.mergeSort_perm _ _).trans (((sort_perm l).symm).map Int.ofNat))
  · simp at h1 h2; omega
  · intro a b c h1 h2; simp at *; omega
  · intro a b; simp; omega
  · have hr := sort_rising l h
    unfold Rise at hr
    unfold cs
    rw [List.pairwise_map]
    refine hr.imp ?_
    intro a b hab
    simp; omega
theorem ic_map (L : List Int) : L.flatMap ic = L.map (Value.int .i64) := by
  induction L with
  | nil => rfl
  | cons x t ih => rw [List.flatMap_cons, ih]; rfl

theorem sort_any (base : Nat) (a : Option Addr) (n c : Nat) (l : List Nat) (w : World) (hn : l.length = n) (h1 : 1 ≤ n) (h32 : n ≤ 1000) (hnd : l.Nodup) (ho : IOwn w base (.slice a n c) (cs l)) :
    Calls Tryz.prog 19 #[.slice a n c] w fun e w' => e = .returned (.tuple #[]) ∧ IOwn w' base (.slice a n c) (cs (sortS l)) ∧ Kp (fun k => (Value.slice a n c).ownBlock = some k) w w' := by
  have hl2 : (cs (sortS l)).length = (cs l).length := by rw [cs_len, cs_len]; exact (sort_perm l).length_eq
  have hcl : (cs l).length = n := by rw [cs_len]; exact hn
  unfold IOwn at ho
  rcases ho.2 with ⟨h, _⟩ | ⟨g, cap, cur, hv, hbase, hb, hnc, hcm, hcs, ht⟩
  · cases h; omega
  · simp only [Value.slice.injEq] at hv
    obtain ⟨rfl, hn2, rfl⟩ := hv
    have hg := (Array.getElem?_eq_some_iff.1 hb).1
    rw [Nat.mul_one, ic_map] at ht
    have k := sort_lib g 0 c (cs l) w (holds_of_blockI hb ht) hg (by omega)
    rw [hcl, sort_cs l hnd] at k
    refine k.mono ?_
    rintro e w' ⟨rfl, m, os, rfl⟩
    have h3 := ownsRow_sortedI (n := m) (os := os) (ts := cs (sortS l)) hl2 hbase hb hnc hcm (by omega)
    refine ⟨rfl, ?_, Kp.grown (grownBy_sortedI _)⟩
    unfold IOwn
    rw [ic_map, hl2]
    rw [hcl] at h3 ⊢
    exact h3

/-- What Parse tells. -/
def PTold (W : World) (base : Nat) (P : List Nat × Int) (e : Ending) : Prop :=
  (P.2 ≠ 0 ∧ e = .returned (.tuple #[.slice none 0 0, .int .i64 P.2])) ∨ (P.2 = 0 ∧ ∃ a n c, e = .returned (.tuple #[.slice a n c, .int .i64 0]) ∧ n = P.1.length ∧ IOwn W base (.slice a n c) (cs P.1))

theorem runs_ok {ps : List (List UInt8)} : okRuns (runsP ps) := by
  intro j hj
  rw [← runAt_eq hj]
  obtain ⟨p, _, hp⟩ := List.mem_filterMap.1 (List.getElem_mem hj)
  exact run_le hp
theorem runs_len (ps : List (List UInt8)) : (runsP ps).length ≤ ps.length := List.length_filterMap_le _ _

set_option maxRecDepth 100000 in
set_option maxHeartbeats 1600000 in
theorem parse_any (l : List UInt8) (hl : l.length ≤ 9223372036854775807) (w : World) :
    Calls Tryz.prog 6 #[Str l] w fun e w' => PTold w' w.heap.size (parseP l) e ∧ Below w.heap.size w w' := by
  obtain ⟨s, hs, hsz, hget, hS, hdl⟩ := str_facts l
  by_cases h4 : 400 < l.length
  · have hP := hid (show parseP l = ([], 3) by unfold parseP; rw [if_pos h4])
    have d : decide ((400 : Int) < (s.size : Int)) = true := by rw [hsz]; simp; omega
    rw [hS]
    clear hs hget hdl
    replace hsz := hid hsz
    go_enter Tryz.func6, Tryz.ntmps6
    go_wp2
    go_ret2
    rw [hP.out]
    exact ⟨.inl ⟨by decide, rfl⟩, Below.refl _ _⟩
  · have kr := runs_any l (by omega) w
    have d : decide ((400 : Int) < (s.size : Int)) = false := by rw [hsz]; simp; omega
    have hpl := (pcs_len 44 l).1
    have hrl := runs_len (pcs 44 l)
    have hro := runs_ok (ps := pcs 44 l)
    have hPg : goodP (pcs 44 l) = true → parseP l = (sortS (addS (flat (runsP (pcs 44 l))) []).1, (addS (flat (runsP (pcs 44 l))) []).2) := fun h => by unfold parseP; rw [if_neg h4, if_pos h]
    have hPb : goodP (pcs 44 l) = false → parseP l = ([], 100) := fun h => by unfold parseP; rw [if_neg h4, if_neg (by simp [h])]
    have hgl := addS_good (flat (runsP (pcs 44 l))) [] (by simp) (by simp)
    have hpos : goodP (pcs 44 l) = true → (parseP l).2 = 0 → 1 ≤ (parseP l).1.length := fun _ h => by
      rcases parse_good l with h2 | h2
      · exact h2.2.1
      · exact absurd h h2.1
    rw [hS] at kr ⊢
    unfold RsTold at kr
    generalize pcs 44 l = ps at *
    generalize runsP ps = rs at *
    generalize parseP l = P at *
    obtain ⟨AA, hAA⟩ : ∃ AA, AA = addS (flat rs) [] := ⟨_, rfl⟩
    rw [← hAA] at hPg hgl
    have ki := fun a n c w hn hat => indexes_any a n c rs w hn (by omega) hat hro
    rw [← hAA] at ki
    clear hs hget hdl hro hAA
    replace hsz := hid hsz
    replace hPg := hid hPg
    replace hPb := hid hPb
    replace hgl := hid hgl
    replace hpos := hid hpos
    go_enter Tryz.func6, Tryz.ntmps6
    go_wp2_with fail
    refine kr.mono ?_
    rintro e w1 ⟨⟨hg, rfl⟩ | ⟨hg, a, n, c, rfl, hn, hown⟩, hb1⟩
    · have hP := hid (hPb.out hg)
      replace hg := hid hg
      go_wp2
      go_ret2
      rw [hP.out]
      exact ⟨.inl ⟨by decide, rfl⟩, hb1⟩
    · have hP := hPg.out hg
      have ki2 := ki a n c w1 hn.symm hown.at
      replace hn := hid hn
      have hpos2 := hid (hpos.out hg)
      replace hg := hid hg
      go_wp2_with fail
      refine ki2.mono ?_
      rintro e w2 ⟨⟨h0, rfl⟩ | ⟨h0, a2, n2, c2, rfl, hn2, hown2⟩, hb2⟩
      · have hP2 : P.2 ≠ 0 := by rw [hP]; exact h0
        have hP3 : P.2 = AA.2 := by rw [hP]
        have d2 : (AA.2 != 0) = true := by simpa using h0
        rw [← hP3] at d2 ⊢
        replace hP2 := hid hP2
        clear hP hP3 h0
        go_wp2
        go_ret2
        exact ⟨.inl ⟨hP2.out, rfl⟩, bnext hb1 hb2⟩
      · rcases hgl.out with ⟨_, g2, g3, g4⟩ | ⟨g1, g2⟩
        · have hP2 : P.2 = 0 := by rw [hP]; exact h0
          have hP1 : P.1 = sortS AA.1 := by rw [hP]
          have h1n := hpos2.out hP2
          rw [hP1, (sort_perm AA.1).length_eq, ← hn2] at h1n
          rw [List.nil_append] at g2 g3 g4
          rw [← g2] at g3 g4
          have ks := sort_any w1.heap.size a2 n2 c2 AA.1 w2 hn2.symm h1n (by rw [hn2]; omega) g3 hown2
          have hof := fun x hx => (World.ownsRow.lt hown2 x hx).1
          have hnl := hid (show n2 = P.1.length by rw [hP1, (sort_perm AA.1).length_eq]; exact hn2)
          replace hn2 := hid hn2
          rw [← hP1] at ks
          clear hP hP1 g2 g3 g4 h0 h1n
          replace hP2 := hid hP2
          replace hown2 := hid hown2
          go_wp2_with fail
          refine ks.mono ?_
          rintro e w3 ⟨rfl, ho3, hk3⟩
          replace ho3 := hid ho3
          go_wp2
          go_ret2
          refine ⟨.inr ⟨hP2.out, a2, n2, c2, rfl, hnl.out, owns_low ho3.out hb1.size⟩, ?_⟩
          exact (bnext hb1 hb2).trans (hk3.below (fun x hx => Nat.le_trans hb1.size (hof x hx)) (Nat.le_trans hb1.size hb2.size))
        · rcases g2 with g2 | g2 <;> (rw [h0] at g2; exact absurd g2 (by decide))
end Go.Proofs.YtomdghodbkhkaaaGreatDoor
