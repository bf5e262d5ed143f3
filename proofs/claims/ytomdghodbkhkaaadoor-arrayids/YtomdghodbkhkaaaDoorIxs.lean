/- indexes: those of runs, index by index. -/
import Derived.Test.YtomdghodbkhkaaaDoorRuns
namespace Go.Proofs.YtomdghodbkhkaaaDoor
open Go.RowKit
set_option linter.unusedVariables false
set_option linter.unusedSimpArgs false

theorem flat_drop {rs : List Run} {j : Nat} (h : j < rs.length) : flat (rs.drop j) = idx (runAt rs j) ++ flat (rs.drop (j + 1)) := by
  rw [List.drop_eq_getElem_cons h, runAt_eq h]
  rfl
theorem cs_has (l : List Nat) (n : Nat) : (cs l).contains ((n : Nat) : Int) = decide (n ∈ l) := by
  rw [Bool.eq_iff_iff]
  simp only [cs, List.contains_iff_mem, List.mem_map, decide_eq_true_eq]
  constructor
  · rintro ⟨a, h1, h2⟩
    obtain rfl : a = n := Int.ofNat.inj h2
    exact h1
  · exact fun h => ⟨n, h, rfl⟩
theorem cs_ic (l : List Nat) (n : Nat) : (cs (l ++ [n])).flatMap ic = (cs l).flatMap ic ++ [.int .i64 (n : Int)] := by
  rw [cs_app, List.flatMap_append]; rfl
theorem contains_any (a : Option Addr) (n c : Nat) (l : List Nat) (x : Nat) (w : World) (hn : l.length = n) (hl : n ≤ 1000) (hat : IAt w a (cs l)) :
    Calls Tryd.prog 29 #[.slice a n c, .int .i64 (x : Int)] w fun e w' => e = .returned (.bool (decide (x ∈ l))) ∧ w' = w := by
  rcases Nat.eq_zero_or_pos n with h0 | h0
  · subst h0
    have hl0 : l = [] := List.eq_nil_of_length_eq_zero hn
    subst hl0
    exact contains_none a c x w
  · obtain ⟨b, o, rfl⟩ := hat.place (by rw [cs_len]; omega)
    have k := contains_lib b o n c (cs l) x w (by rw [cs_len]; omega) (by omega) (fun j hj => by
      have := hat.one hj
      exact this)
    rw [show (cs l).take n = cs l from List.take_of_length_le (by rw [cs_len]; omega), cs_has] at k
    exact k

/-- What is left of the indexes. -/
def AI (rs : List Run) (rest l : List Nat) : Prop := addS (flat rs) [] = addS rest l
theorem AI.twice {rs : List Run} {n : Nat} {t l : List Nat} (h : AI rs (n :: t) l) (hm : n ∈ l) : addS (flat rs) [] = ([], 140) := by
  unfold AI at h; rw [h, addS, if_pos hm]
theorem AI.long {rs : List Run} {n : Nat} {t l : List Nat} (h : AI rs (n :: t) l) (hm : n ∉ l) (hl : 32 ≤ l.length) : addS (flat rs) [] = ([], 3) := by
  unfold AI at h; rw [h, addS, if_neg hm, if_pos hl]
theorem AI.next {rs : List Run} {n : Nat} {t l : List Nat} (h : AI rs (n :: t) l) (hm : n ∉ l) (hl : l.length < 32) : AI rs t (l ++ [n]) := by
  unfold AI at *; rw [h, addS, if_neg hm, if_neg (by omega)]

theorem idx_drop {r : Run} {i : Nat} (h : i < (r.2.1 - r.1) / r.2.2 + 1) : (idx r).drop i = (r.1 + r.2.2 * i) :: (idx r).drop (i + 1) := by
  have hl : (idx r).length = (r.2.1 - r.1) / r.2.2 + 1 := by simp [idx]
  rw [List.drop_eq_getElem_cons (by rw [hl]; exact h)]
  congr 1
  simp [idx]
theorem idx_end (r : Run) : (idx r).drop ((r.2.1 - r.1) / r.2.2 + 1) = [] := List.drop_eq_nil_of_le (by simp [idx])
theorem ix_le {a b s i : Nat} (hab : a ≤ b) (hs : 1 ≤ s) : a + s * i ≤ b ↔ i < (b - a) / s + 1 := by
  rw [Nat.lt_succ_iff, Nat.le_div_iff_mul_le (by omega), Nat.mul_comm]
  omega

theorem own_not {w : World} {base n g : Nat} {v : Value} {xs : List Value} {a b c : Int} (h : w.ownsRow base 3 1 v n xs) (hr : RB w g a b c) : v.ownBlock ≠ some g := by
  intro e
  rcases h.2 with ⟨rfl, _⟩ | ⟨g2, cap, cur, rfl, _, hg, _⟩
  · cases e
  · have e2 : g2 = g := by
      have h3 : (some g2 : Option Nat) = some g := e
      simpa using h3
    subst e2
    unfold RB at hr
    rw [hr] at hg
    simp at hg

/-- What indexes tells. -/
def IxTold (W : World) (base : Nat) (A : List Nat × Int) (e : Ending) : Prop :=
  (A.2 ≠ 0 ∧ e = .returned (.tuple #[.slice none 0 0, .int .i64 A.2])) ∨ (A.2 = 0 ∧ ∃ a n c, e = .returned (.tuple #[.slice a n c, .int .i64 0]) ∧ n = A.1.length ∧ IOwn W base (.slice a n c) (cs A.1))

def okRuns (rs : List Run) : Prop := ∀ j, j < rs.length → (runAt rs j).1 ≤ (runAt rs j).2.1 ∧ (runAt rs j).2.1 ≤ 9999 ∧ 1 ≤ (runAt rs j).2.2 ∧ (runAt rs j).2.2 ≤ 9999

set_option maxRecDepth 100000 in
set_option maxHeartbeats 4000000 in
theorem indexes_any (a0 : Option Addr) (k c0 : Nat) (rs : List Run) (w : World) (hn : rs.length = k) (hk : k ≤ 1000) (hat : NRAt w a0 rs) (hok : okRuns rs) :
    Calls Tryd.prog 17 #[.slice a0 k c0] w fun e w' => IxTold w' w.heap.size (addS (flat rs) []) e ∧ Below w.heap.size w w' := by
  obtain ⟨i0, hi0, hz0, hz1, hz2⟩ := info_parts info3
  obtain ⟨AA, hAA⟩ : ∃ AA, AA = addS (flat rs) [] := ⟨_, rfl⟩
  rw [← hAA]
  replace hn := hid hn
  replace hat := hid hat
  replace hok := hid hok
  replace hAA := hid hAA
  go_enter Tryd.func17, Tryd.ntmps17
  go_wp2_with fail
  go_loopw [4, 10] (fun v i wr => ∃ (j : Nat) (l : List Nat) (a : Option Addr) (n c : Nat), j ≤ k ∧ i = .int .i64 (j : Int) ∧ v = .slice a n c ∧ Hid (l.length = n) ∧ n ≤ 32 ∧ Hid (wr.ownsRow w.heap.size 3 1 v n ((cs l).flatMap ic)) ∧ Hid (AI rs (flat (rs.drop j)) l) ∧ Below w.heap.size w wr) (fun _ i _ => k - (intOf i).toNat)
  case atStart => exact ⟨0, [], none, 0, 0, Nat.zero_le _, rfl, rfl, hid rfl, by omega, hid (World.ownsRow_nil _ _ _ _), hid rfl, Below.refl _ _⟩
  case round =>
    obtain ⟨j, l, a, n, c, hj, rfl, rfl, hln, hn32, hown, hai, hb⟩ := hrel
    by_cases hlt : j < k
    · have hjr : j < rs.length := by rw [hn.out]; exact hlt
      obtain ⟨b, o, e⟩ := hat.out.place (by omega)
      subst e
      obtain ⟨x0, x1, x2⟩ := (hat.out.below hb).one hjr
      obtain ⟨ok1, ok2, ok3, ok4⟩ := hok.out j hjr
      have hfd := flat_drop hjr
      obtain ⟨r, hr⟩ : ∃ r, r = runAt rs j := ⟨_, rfl⟩
      rw [← hr] at x0 x1 x2 ok1 ok2 ok3 ok4 hfd
      replace hr := hid hr
      obtain ⟨ra, rb, rd⟩ := r
      simp only at x0 x1 x2 ok1 ok2 ok3 ok4
      have hai2 := hai.out
      rw [hfd] at hai2
      replace hfd := hid hfd
      replace hai2 := hid hai2
      clear hai
      obtain ⟨wo, hwo⟩ : ∃ wo, wo = wr := ⟨_, rfl⟩
      subst hwo
      have rb6 := RB.new wo (ra : Int) (rb : Int) (rd : Int)
      have bl6 := below_lit wo (.cells #[.int .i64 (ra : Int), .int .i64 (rb : Int), .int .i64 (rd : Int)] 50)
      have own6 := hid (owns_below hown.out bl6)
      have hb6 := bnext hb bl6
      have lt6 := rb6.lt
      replace rb6 := hid rb6
      obtain ⟨g6, hg6⟩ : ∃ g6, g6 = wo.heap.size := ⟨_, rfl⟩
      go_wp2_with fail
      go_loopw [4, 7] (fun v x wr => ∃ (i X : Nat) (l2 : List Nat) (a2 : Option Addr) (n2 c2 : Nat), i ≤ (rb - ra) / rd + 1 ∧ X = ra + rd * i ∧ X ≤ 20000 ∧ x = .int .i64 (X : Int) ∧ v = .slice a2 n2 c2 ∧ Hid (l2.length = n2) ∧ n2 ≤ 32 ∧ Hid (wr.ownsRow w.heap.size 3 1 v n2 ((cs l2).flatMap ic)) ∧ Hid (AI rs ((idx (ra, rb, rd)).drop i ++ flat (rs.drop (j + 1))) l2) ∧ Hid (RB wr wo.heap.size (ra : Int) (rb : Int) (rd : Int)) ∧ Below w.heap.size w wr) (fun _ x _ => 30000 - (intOf x).toNat)
      case atStart => exact ⟨0, ra, l, a, n, c, Nat.zero_le _, by rw [Nat.mul_zero, Nat.add_zero], by omega, rfl, rfl, hln, hn32, own6, hai2, rb6, hb6⟩
      case round =>
        obtain ⟨i, X, l2, a2, n2, c2, hi, hX, hX2, rfl, rfl, hln2, hn2, hown2, hai3, hrb, hb2⟩ := hrel
        obtain ⟨y0, y1, y2⟩ := hrb.out.cells
        have hle := ix_le (i := i) ok1 ok3
        rw [← hX] at hle
        by_cases hlt2 : i < (rb - ra) / rd + 1
        · have hXb : X ≤ rb := hle.2 hlt2
          have dX : decide ((X : Int) ≤ (rb : Int)) = true := decide_eq_true (by omega)
          have hai4 := hai3.out
          rw [idx_drop hlt2] at hai4
          simp only [List.cons_append] at hai4
          rw [← hX] at hai4
          have hX3 : X + rd = ra + rd * (i + 1) := by rw [hX, Nat.mul_succ]; omega
          have hat2 : IAt wr a2 (cs l2) := owns_cat hown2.out
          have kc := contains_any a2 n2 c2 l2 X wr hln2.out (by omega) hat2
          have h20 := hid (fun hm => AI.twice hai4 hm)
          have h21 := hid (fun hm hl => AI.long hai4 hm hl)
          have h22 := hid (fun hm hl => AI.next hai4 hm hl)
          clear hai4 hai3 hle hat2
          replace hX := hid hX
          replace hX3 := hid hX3
          replace hi := hid hi
          replace hlt2 := hid hlt2
          by_cases hm : X ∈ l2
          · have hfin := hid (show AA = ([], 140) by rw [hAA.out]; exact h20.out hm)
            rw [show decide (X ∈ l2) = true from decide_eq_true hm] at kc
            replace hm := hid hm
            go_wp2_with fail
            refine kc.mono ?_
            rintro e w2 ⟨rfl, rfl⟩
            go_wp2
            go_ret2
            rw [hfin.out]
            exact ⟨.inl ⟨by decide, rfl⟩, hb2⟩
          · rw [show decide (X ∈ l2) = false from decide_eq_false hm] at kc
            by_cases hlen : 32 ≤ n2
            · have hfin := hid (show AA = ([], 3) by rw [hAA.out]; exact h21.out hm (by rw [hln2.out]; exact hlen))
              have dn : decide ((32 : Int) ≤ (n2 : Int)) = true := decide_eq_true (by omega)
              replace hm := hid hm
              go_wp2_with fail
              refine kc.mono ?_
              rintro e w2 ⟨rfl, rfl⟩
              go_wp2
              go_ret2
              rw [hfin.out]
              exact ⟨.inl ⟨by decide, rfl⟩, hb2⟩
            · have dn : decide ((32 : Int) ≤ (n2 : Int)) = false := decide_eq_false (by omega)
              have hnx := h22.out hm (by rw [hln2.out]; omega)
              replace hnx := hid hnx
              replace hm := hid hm
              clear h20 h21 h22
              go_wp2_with fail
              refine kc.mono ?_
              rintro e w2 ⟨rfl, rfl⟩
              have bl := below_lit w2 (.cells #[.int .i64 (X : Int)] 3)
              have hown3 := hid (owns_below hown2.out bl)
              have hcl := hid (cat_lit w2 3 [.int .i64 (X : Int)] _ rfl)
              have hone := hid (one_I (X : Int))
              have hbase : w.heap.size ≤ (w2.alloc (.cells #[.int .i64 (X : Int)] 3)).heap.size := Nat.le_trans hb2.size bl.size
              have hmax : n2 + 1 ≤ maxLen := by unfold maxLen; omega
              go_wp2_with (refine wpList_cat _ rfl (.tmp 30) (.tmp 32) 22 rfl w.heap.size 3 i0 _ 1 8 Tryd.underlying22 hi0 hz0 hz1 hz2 rfl (by omega) (.slice a2 n2 c2) n2 ((cs l2).flatMap ic) rfl hown3.out (some ⟨w2.heap.size, 0, none⟩) 1 1 _ rfl rfl hcl.out hone.out hmax (by omega) hbase ?_)
              intro v7 w7 hr7 hg7 hv7
              obtain ⟨a7, c7, e7, hc7⟩ := owns_form hr7
              subst e7
              have hb7 : Below w.heap.size w w7 := (bnext hb2 bl).trans ((Kp.grown hg7).below (fun x hx => (World.ownsRow.lt hown3.out x hx).1) hbase)
              have hrb7 := hid ((hrb.out.below bl).kp (Kp.grown hg7) (fun e => own_not hown3.out (hrb.out.below bl) e))
              rw [← cs_ic] at hr7
              replace hr7 := hid hr7
              have hl7 := hid (show (l2 ++ [X]).length = n2 + 1 by rw [List.length_append, List.length_singleton, hln2.out])
              obtain ⟨z0, z1, z2⟩ := hrb7.out.cells
              go_wp2_with fail
              go_roundw
              case rel => exact ⟨i + 1, X + rd, l2 ++ [X], a7, n2 + 1, c7, hlt2.out, hX3.out, by omega, by go_num, rfl, hl7, by omega, hr7, hnx, hrb7, hb7⟩
              case measure => simp [intOf]; omega
        · have hie : i = (rb - ra) / rd + 1 := by omega
          have hnl : ¬ X ≤ rb := fun h => hlt2 (hle.1 h)
          have dX : decide ((X : Int) ≤ (rb : Int)) = false := decide_eq_false (by omega)
          have hai4 : AI rs (flat (rs.drop (j + 1))) l2 := by
            have h := hai3.out
            rw [hie, idx_end (ra, rb, rd), List.nil_append] at h
            exact h
          replace hai4 := hid hai4
          clear hai3 hle hlt2
          replace hX := hid hX
          replace hie := hid hie
          replace hi := hid hi
          go_wp2_with fail
          go_roundw
          case rel => exact ⟨j + 1, l2, a2, n2, c2, by omega, by go_num, rfl, hln2, hn2, hown2, hai4, hb2⟩
          case measure => simp [intOf]; omega
    · have hje : j = k := by omega
      have hfin := hid (show AA = (l, 0) by
        have h := hai.out
        rw [hje, ← hn.out, List.drop_length] at h
        rw [hAA.out]; exact h)
      subst hje
      go_wp2
      go_ret2
      rw [hfin.out]
      exact ⟨.inr ⟨rfl, a, n, c, rfl, hln.out.symm, by unfold IOwn; rw [cs_len, hln.out]; exact hown.out⟩, hb⟩
end Go.Proofs.YtomdghodbkhkaaaDoor
