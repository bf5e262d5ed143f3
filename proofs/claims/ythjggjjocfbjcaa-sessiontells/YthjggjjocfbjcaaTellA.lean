/- The document's find and with. -/
import Derived.Test.YthjggjjocfbjcaaPlain2
import Derived.Test.YthjggjjocfbjcaaAwake
import Derived.Test.YthjggjjocfbjcaaRefTake
namespace Go.Proofs.Ythjggjjocfbjcaa
open Go.RowKit

def FindR (L : List CV) (cl r : Int) : Prop := (∃ i : Nat, ∃ h : i < L.length, r = (i : Int) ∧ (L[i]'h).id = cl) ∨ (r = -1 ∧ ∀ x ∈ L, x.id ≠ cl)

set_option maxRecDepth 100000 in
set_option maxHeartbeats 400000 in
theorem find_any (a : Option Addr) (n c lo : Nat) (L : List CV) (cl : Int) (w : World) (hL : L.length = n) (h : LAt w lo a L) (hn : n ≤ 9000000000000000000) :
    Calls Try.prog 56 #[.slice a n c, .int .i64 cl] w fun e w' => (∃ r : Int, e = .returned (.int .i64 r) ∧ FindR L cl r) ∧ Below w.heap.size w w' := by
  replace hL := hid hL
  go_enter Try.func56, Try.ntmps56
  go_wp2_with fail
  go_loopw [5] (fun i wr => ∃ j : Nat, j ≤ n ∧ i = .int .i64 (j : Int) ∧ Hid (∀ x ∈ L.take j, x.id ≠ cl) ∧ Below w.heap.size w wr) (fun i _ => n - (intOf i).toNat)
  case atStart => exact ⟨0, Nat.zero_le _, rfl, hid (by simp), Below.refl _ _⟩
  case round =>
    obtain ⟨j, hj, rfl, hre, hb⟩ := hrel
    by_cases hlt : j < n
    · have hjL : j < L.length := by rw [hL.out]; exact hlt
      obtain ⟨b, o, e⟩ := h.place (by intro e; rw [e] at hjL; simp at hjL)
      subst e
      have hr := h.below hb
      obtain ⟨x0, -, -⟩ := hr.one j hjL
      generalize hy : L[j].id = y at x0
      replace hr := hid hr
      by_cases h1 : y = cl
      · have d1 : (y == cl) = true := by simpa using h1
        have hf : FindR L cl (j : Int) := .inl ⟨j, hjL, rfl, by rw [hy]; exact h1⟩
        replace hf := hid hf
        replace hy := hid hy
        replace h1 := hid h1
        go_wp2
        go_ret
        exact ⟨⟨_, rfl, hf.out⟩, hb⟩
      · have d1 : (y == cl) = false := by simpa using h1
        have hnx : Hid (∀ x ∈ L.take (j + 1), x.id ≠ cl) := hid (by
          intro x hx
          rw [List.take_succ_eq_append_getElem hjL] at hx
          rcases List.mem_append.1 hx with hx | hx
          · exact hre.out x hx
          · rw [List.mem_singleton.1 hx, hy]; exact h1)
        replace hy := hid hy
        replace h1 := hid h1
        go_wp2_with fail
        go_roundw
        case rel => exact ⟨j + 1, by omega, by go_num, hnx, hb⟩
        case measure => simp [intOf]; omega
    · obtain rfl : j = n := by omega
      have hf : FindR L cl (-1) := .inr ⟨rfl, fun x hx => hre.out x (by rw [← hL.out, List.take_length]; exact hx)⟩
      replace hf := hid hf
      go_wp2
      go_ret
      exact ⟨⟨_, rfl, hf.out⟩, hb⟩

/-- with, as its loop goes. -/
def wgo (X : PC) : Bool → List PC → List PC
  | b, [] => if b then [] else [X]
  | b, y :: r => (if !b && decide (X.1 ≤ y.1) then [X] else []) ++ ((if y.1 == X.1 then [] else [y]) ++ wgo X (b || decide (X.1 ≤ y.1)) r)

theorem wgo_true (X : PC) : ∀ l : List PC, (∀ y ∈ l, y.1 ≠ X.1) → wgo X true l = l
  | [], _ => rfl
  | y :: r, h => by
    have h1 := h y (by simp)
    simp only [wgo, wgo_true X r (fun z hz => h z (by simp [hz])), Bool.not_true, Bool.false_and, Bool.true_or]
    simp [h1]

theorem wgo_put (X : PC) : ∀ (lo : Int) (l : List PC), Up lo l → wgo X false l = putG l X
  | _, [], _ => rfl
  | lo, y :: r, h => by
    simp only [wgo, putG, Bool.not_false, Bool.true_and, Bool.false_or]
    by_cases h1 : X.1 ≤ y.1
    · have hr : wgo X true r = r := wgo_true X r (fun z hz => by have := Up.mem h.2 z hz; omega)
      rw [decide_eq_true h1, if_pos h1, hr]
      by_cases h2 : y.1 = X.1
      · rw [if_pos h2]; simp [h2]
      · rw [if_neg h2]; simp [h2]
    · rw [decide_eq_false h1, if_neg h1, wgo_put X y.1 r h.2]
      have h2 : ¬ y.1 = X.1 := by omega
      simp [h2]

/-- Clients in a row of the call's own, what they keep where it was. -/
theorem latOf {w w' : World} {base n c : Nat} {ad : Option Addr} {F : List CV} (hF : ∀ k ∈ F, KAt w 0 k.a k.ks) (hr : w'.ownsRow base 34 3 (.slice ad n c) F.length (F.flatMap CV.cells)) (hb : Below w.heap.size w w') : LAt w' 0 ad F :=
  ⟨owns_cat hr, fun _ _ => Nat.zero_le _, fun k hk => (hF k hk).below hb⟩

def WtI (w1 wr : World) (L : List CV) (C : CV) (j : Nat) (v : Value) (b : Bool) : Prop :=
  ∃ Q : List CV, Q.map CV.flat ++ wgo C.flat b ((L.drop j).map CV.flat) = wgo C.flat false (L.map CV.flat) ∧ (∀ x ∈ Q, x ∈ L ∨ x = C) ∧ Q.length ≤ 2 * j ∧ wr.ownsRow w1.heap.size 34 3 v Q.length (Q.flatMap CV.cells) ∧ Below w1.heap.size w1 wr

theorem wt_step {C : CV} {L : List CV} {j : Nat} (hj : j < L.length) (b : Bool) : wgo C.flat b ((L.drop j).map CV.flat) = (if !b && decide (C.id ≤ L[j].id) then [C.flat] else []) ++ ((if L[j].id == C.id then [] else [L[j].flat]) ++ wgo C.flat (b || decide (C.id ≤ L[j].id)) ((L.drop (j + 1)).map CV.flat)) := by
  rw [List.drop_eq_getElem_cons hj]
  rfl

set_option linter.unusedSimpArgs false in
set_option maxRecDepth 100000 in
set_option maxHeartbeats 4000000 in
theorem with_any (a : Option Addr) (n c : Nat) (L : List CV) (id fl : Int) (ka : Option Addr) (kn kc : Nat) (ks : List KV) (w : World) (hL : L.length = n) (h : LAt w 0 a L) (hkl : ks.length = kn) (hks : KAt w 0 ka ks) (hn : n ≤ 1000) :
    Calls Try.prog 57 #[.slice a n c, .agg #[.int .i64 id, .int .i64 fl, .slice ka kn kc]] w fun e w' => ∃ a' c' n' L', e = .returned (.slice a' n' c') ∧ L'.length = n' ∧ L'.map CV.flat = wgo (id, fl, ks.map KV.flat) false (L.map CV.flat) ∧ LAt w' 0 a' L' ∧ Below w.heap.size w w' := by
  have b1 := below_lit w (.cells #[.int .i64 id, .int .i64 fl, .slice ka kn kc] 34)
  have pC := CBlk.new w (.int .i64 id) (.int .i64 fl) (.slice ka kn kc)
  have hL1 := hid (h.below b1)
  have hks1 := hid (hks.below b1)
  replace hL := hid hL
  replace hkl := hid hkl
  obtain ⟨i0, hi0, hz0, hz1, hz2⟩ := info_parts info34z
  go_enter Try.func57, Try.ntmps57
  go_wp2_with fail
  obtain ⟨w1, hw1⟩ : ∃ w1, w1 = w.alloc (.cells #[.int .i64 id, .int .i64 fl, .slice ka kn kc] 34) := ⟨_, rfl⟩
  rw [← hw1] at b1 pC hL1 hks1 ⊢
  clear hw1
  replace pC := hid pC
  go_loopw [5, 6, 7] (fun v b i wr => ∃ (j : Nat) (bb : Bool), j ≤ n ∧ i = .int .i64 (j : Int) ∧ b = .bool bb ∧ WtI w1 wr L ⟨id, fl, ka, kc, ks⟩ j v bb) (fun _ _ i _ => n - (intOf i).toNat)
  case atStart => exact ⟨0, false, Nat.zero_le _, rfl, rfl, [], rfl, by simp, by simp, World.ownsRow_nil _ _ _ _, Below.refl _ _⟩
  case round =>
    obtain ⟨j, bb, hj, rfl, rfl, Q, hQ, hmem, hle, hrow, hB⟩ := hrel
    obtain ⟨m, hm⟩ : ∃ m, Q.length = m := ⟨_, rfl⟩
    obtain ⟨Qc, hQc⟩ : ∃ Qc, Q.flatMap CV.cells = Qc := ⟨_, rfl⟩
    rw [hm] at hle
    rw [hm, hQc] at hrow
    replace hQ := hid hQ
    replace hmem := hid hmem
    replace hm := hid hm
    replace hQc := hid hQc
    by_cases hlt : j < n
    · have hjL : j < L.length := by rw [hL.out]; exact hlt
      obtain ⟨b, o, e⟩ := h.place (by intro e; rw [e] at hjL; simp at hjL)
      subst e
      obtain ⟨y, hy⟩ : ∃ y, L[j] = y := ⟨_, rfl⟩
      obtain ⟨yi, yf, ya, yc, yks⟩ := y
      obtain ⟨yn, hyl⟩ : ∃ yn, yks.length = yn := ⟨_, rfl⟩
      replace hy := hid hy
      replace hyl := hid hyl
      by_cases hge : id ≤ yi
      · have d1 : decide (id ≤ yi) = true := decide_eq_true hge
        have g1 := hid hge
        clear hge
        cases bb with
        | false =>
          by_cases he : yi = id
          · have d2 : (yi == id) = true := by simpa using he
            have g2 := hid he
            clear he
            obtain ⟨x0, x1, x2⟩ := (hL1.out.below hB).one j hjL
            rw [hy.out] at x0 x1 x2
            simp only at x0 x1 x2
            rw [hyl.out] at x2
            have k0 := (pC.out.below hB).cell0
            have k1 := (pC.out.below hB).cell1
            have k2 := (pC.out.below hB).cell2
            go_wp2_with fail
            go_quiet (fail)
            have bd : Below wr.heap.size wr (wr.drewN nq) := below_drewN (Below.refl _ _) nq
            clear x0 x1 x2 k0 k1 k2
            replace hrow := owns_below hrow bd
            replace hB := hB.trans (bd.mono hB.size)
            clear bd
            generalize wr.drewN nq = wq1 at hrow hB ⊢
            clear nq
            obtain ⟨x0, x1, x2⟩ := (hL1.out.below hB).one j hjL
            rw [hy.out] at x0 x1 x2
            simp only at x0 x1 x2
            rw [hyl.out] at x2
            have k0 := (pC.out.below hB).cell0
            have k1 := (pC.out.below hB).cell1
            have k2 := (pC.out.below hB).cell2
            have bl := below_lit wq1 (.cells #[.int .i64 id, .int .i64 fl, .slice ka kn kc] 34)
            have hP6 := hid (owns_below hrow bl)
            have hbase := hid (show w1.heap.size ≤ (wq1.alloc (.cells #[.int .i64 id, .int .i64 fl, .slice ka kn kc] 34)).heap.size from Nat.le_trans hB.size bl.size)
            have hcl := hid (cat_lit wq1 34 [.int .i64 id, .int .i64 fl, .slice ka kn kc] _ rfl)
            go_wp2_with (at_builtin; refine wpList_cat _ rfl (.tmp 26) (.tmp 28) 22 rfl w1.heap.size 34 i0 _ 3 40 Try.underlying22 hi0 hz0 hz1 hz2 rfl (by omega) u5 m Qc rfl hP6.out (some ⟨wq1.heap.size, 0, none⟩) 1 1 [.int .i64 id, .int .i64 fl, .slice ka kn kc] rfl rfl hcl.out (by simp [Value.oneCell']) (by unfold maxLen; omega) (by omega) hbase.out ?_; intro v2 wp2 hr7 hg7 hv7; refine Hid.out ?_)
            refine hid ?_
            clear x0 x1 x2 k0 k1 k2
            replace hB := (hB.trans (bl.mono hB.size)).trans ((Kp.grown hg7).below (fun k hk => (World.ownsRow.lt hP6.out k hk).1) hbase.out)
            clear hrow
            have hrow := hr7
            clear hr7 hg7 hP6 hbase hcl bl hv7
            obtain ⟨x0, x1, x2⟩ := (hL1.out.below hB).one j hjL
            rw [hy.out] at x0 x1 x2
            simp only at x0 x1 x2
            rw [hyl.out] at x2
            have k0 := (pC.out.below hB).cell0
            have k1 := (pC.out.below hB).cell1
            have k2 := (pC.out.below hB).cell2
            go_wp2_with fail
            go_quiet (fail)
            have bd : Below wp2.heap.size wp2 (wp2.drewN nq) := below_drewN (Below.refl _ _) nq
            clear x0 x1 x2 k0 k1 k2
            replace hrow := owns_below hrow bd
            replace hB := hB.trans (bd.mono hB.size)
            clear bd
            generalize wp2.drewN nq = wq3 at hrow hB ⊢
            clear nq
            have hI : WtI w1 wq3 L ⟨id, fl, ka, kc, ks⟩ (j + 1) v2 true := by
              refine ⟨Q ++ [(⟨id, fl, ka, kc, ks⟩ : CV)], ?_, ?_, ?_, ?_, hB⟩
              · rw [← hQ.out, wt_step hjL, hy.out]
                have e1 : id ≤ yi := by have := g1.out; omega
                simp [e1, g2.out, CV.flat]
              · intro x hx
                (try simp only [List.mem_append, List.mem_singleton] at hx)
                have := hmem.out
                have hyL : (⟨yi, yf, ya, yc, yks⟩ : CV) ∈ L := hy.out ▸ List.getElem_mem hjL
                grind
              · simp [hm.out]; omega
              · have h1 := hm.out
                have h2 := hQc.out
                have h3 := hyl.out
                have h4 := hkl.out
                subst h1 h2 h3 h4
                simpa [CV.cells] using hrow
            replace hI := hid hI
            go_wp2_with fail
            go_roundw
            case rel => exact ⟨j + 1, _, by omega, by go_num, rfl, hI.out⟩
            case measure => simp [intOf]; omega
          · have d2 : (yi == id) = false := by simpa using he
            have g2 := hid he
            clear he
            obtain ⟨x0, x1, x2⟩ := (hL1.out.below hB).one j hjL
            rw [hy.out] at x0 x1 x2
            simp only at x0 x1 x2
            rw [hyl.out] at x2
            have k0 := (pC.out.below hB).cell0
            have k1 := (pC.out.below hB).cell1
            have k2 := (pC.out.below hB).cell2
            go_wp2_with fail
            go_quiet (fail)
            have bd : Below wr.heap.size wr (wr.drewN nq) := below_drewN (Below.refl _ _) nq
            clear x0 x1 x2 k0 k1 k2
            replace hrow := owns_below hrow bd
            replace hB := hB.trans (bd.mono hB.size)
            clear bd
            generalize wr.drewN nq = wq1 at hrow hB ⊢
            clear nq
            obtain ⟨x0, x1, x2⟩ := (hL1.out.below hB).one j hjL
            rw [hy.out] at x0 x1 x2
            simp only at x0 x1 x2
            rw [hyl.out] at x2
            have k0 := (pC.out.below hB).cell0
            have k1 := (pC.out.below hB).cell1
            have k2 := (pC.out.below hB).cell2
            have bl := below_lit wq1 (.cells #[.int .i64 id, .int .i64 fl, .slice ka kn kc] 34)
            have hP6 := hid (owns_below hrow bl)
            have hbase := hid (show w1.heap.size ≤ (wq1.alloc (.cells #[.int .i64 id, .int .i64 fl, .slice ka kn kc] 34)).heap.size from Nat.le_trans hB.size bl.size)
            have hcl := hid (cat_lit wq1 34 [.int .i64 id, .int .i64 fl, .slice ka kn kc] _ rfl)
            go_wp2_with (at_builtin; refine wpList_cat _ rfl (.tmp 26) (.tmp 28) 22 rfl w1.heap.size 34 i0 _ 3 40 Try.underlying22 hi0 hz0 hz1 hz2 rfl (by omega) u5 m Qc rfl hP6.out (some ⟨wq1.heap.size, 0, none⟩) 1 1 [.int .i64 id, .int .i64 fl, .slice ka kn kc] rfl rfl hcl.out (by simp [Value.oneCell']) (by unfold maxLen; omega) (by omega) hbase.out ?_; intro v2 wp2 hr7 hg7 hv7; refine Hid.out ?_)
            refine hid ?_
            clear x0 x1 x2 k0 k1 k2
            replace hB := (hB.trans (bl.mono hB.size)).trans ((Kp.grown hg7).below (fun k hk => (World.ownsRow.lt hP6.out k hk).1) hbase.out)
            clear hrow
            have hrow := hr7
            clear hr7 hg7 hP6 hbase hcl bl hv7
            obtain ⟨x0, x1, x2⟩ := (hL1.out.below hB).one j hjL
            rw [hy.out] at x0 x1 x2
            simp only at x0 x1 x2
            rw [hyl.out] at x2
            have k0 := (pC.out.below hB).cell0
            have k1 := (pC.out.below hB).cell1
            have k2 := (pC.out.below hB).cell2
            go_wp2_with fail
            go_quiet (fail)
            have bd : Below wp2.heap.size wp2 (wp2.drewN nq) := below_drewN (Below.refl _ _) nq
            clear x0 x1 x2 k0 k1 k2
            replace hrow := owns_below hrow bd
            replace hB := hB.trans (bd.mono hB.size)
            clear bd
            generalize wp2.drewN nq = wq3 at hrow hB ⊢
            clear nq
            obtain ⟨x0, x1, x2⟩ := (hL1.out.below hB).one j hjL
            rw [hy.out] at x0 x1 x2
            simp only at x0 x1 x2
            rw [hyl.out] at x2
            have k0 := (pC.out.below hB).cell0
            have k1 := (pC.out.below hB).cell1
            have k2 := (pC.out.below hB).cell2
            have bl := below_lit wq3 (.cells #[.int .i64 yi, .int .i64 yf, .slice ya yn yc] 34)
            have hP6 := hid (owns_below hrow bl)
            have hbase := hid (show w1.heap.size ≤ (wq3.alloc (.cells #[.int .i64 yi, .int .i64 yf, .slice ya yn yc] 34)).heap.size from Nat.le_trans hB.size bl.size)
            have hcl := hid (cat_lit wq3 34 [.int .i64 yi, .int .i64 yf, .slice ya yn yc] _ rfl)
            go_wp2_with (at_builtin; refine wpList_cat _ rfl (.tmp 38) (.tmp 43) 22 rfl w1.heap.size 34 i0 _ 3 40 Try.underlying22 hi0 hz0 hz1 hz2 rfl (by omega) v2 (m + 1) (Qc ++ [.int .i64 id, .int .i64 fl, .slice ka kn kc]) rfl hP6.out (some ⟨wq3.heap.size, 0, none⟩) 1 1 [.int .i64 yi, .int .i64 yf, .slice ya yn yc] rfl rfl hcl.out (by simp [Value.oneCell']) (by unfold maxLen; omega) (by omega) hbase.out ?_; intro v4 wp4 hr7 hg7 hv7; refine Hid.out ?_)
            refine hid ?_
            clear x0 x1 x2 k0 k1 k2
            replace hB := (hB.trans (bl.mono hB.size)).trans ((Kp.grown hg7).below (fun k hk => (World.ownsRow.lt hP6.out k hk).1) hbase.out)
            clear hrow
            have hrow := hr7
            clear hr7 hg7 hP6 hbase hcl bl hv7
            have hI : WtI w1 wp4 L ⟨id, fl, ka, kc, ks⟩ (j + 1) v4 true := by
              refine ⟨Q ++ [(⟨id, fl, ka, kc, ks⟩ : CV)] ++ [(⟨yi, yf, ya, yc, yks⟩ : CV)], ?_, ?_, ?_, ?_, hB⟩
              · rw [← hQ.out, wt_step hjL, hy.out]
                have e1 : id ≤ yi := by have := g1.out; omega
                simp [e1, g2.out, CV.flat]
              · intro x hx
                (try simp only [List.mem_append, List.mem_singleton] at hx)
                have := hmem.out
                have hyL : (⟨yi, yf, ya, yc, yks⟩ : CV) ∈ L := hy.out ▸ List.getElem_mem hjL
                grind
              · simp [hm.out]; omega
              · have h1 := hm.out
                have h2 := hQc.out
                have h3 := hyl.out
                have h4 := hkl.out
                subst h1 h2 h3 h4
                simpa [CV.cells] using hrow
            replace hI := hid hI
            go_wp2_with fail
            go_roundw
            case rel => exact ⟨j + 1, _, by omega, by go_num, rfl, hI.out⟩
            case measure => simp [intOf]; omega
        | true =>
          by_cases he : yi = id
          · have d2 : (yi == id) = true := by simpa using he
            have g2 := hid he
            clear he
            obtain ⟨x0, x1, x2⟩ := (hL1.out.below hB).one j hjL
            rw [hy.out] at x0 x1 x2
            simp only at x0 x1 x2
            rw [hyl.out] at x2
            have k0 := (pC.out.below hB).cell0
            have k1 := (pC.out.below hB).cell1
            have k2 := (pC.out.below hB).cell2
            go_wp2_with fail
            go_quiet (fail)
            have bd : Below wr.heap.size wr (wr.drewN nq) := below_drewN (Below.refl _ _) nq
            clear x0 x1 x2 k0 k1 k2
            replace hrow := owns_below hrow bd
            replace hB := hB.trans (bd.mono hB.size)
            clear bd
            generalize wr.drewN nq = wq1 at hrow hB ⊢
            clear nq
            obtain ⟨x0, x1, x2⟩ := (hL1.out.below hB).one j hjL
            rw [hy.out] at x0 x1 x2
            simp only at x0 x1 x2
            rw [hyl.out] at x2
            have k0 := (pC.out.below hB).cell0
            have k1 := (pC.out.below hB).cell1
            have k2 := (pC.out.below hB).cell2
            go_wp2_with fail
            go_quiet (fail)
            have bd : Below wq1.heap.size wq1 (wq1.drewN nq) := below_drewN (Below.refl _ _) nq
            clear x0 x1 x2 k0 k1 k2
            replace hrow := owns_below hrow bd
            replace hB := hB.trans (bd.mono hB.size)
            clear bd
            generalize wq1.drewN nq = wq2 at hrow hB ⊢
            clear nq
            have hI : WtI w1 wq2 L ⟨id, fl, ka, kc, ks⟩ (j + 1) u5 true := by
              refine ⟨Q, ?_, ?_, ?_, ?_, hB⟩
              · rw [← hQ.out, wt_step hjL, hy.out]
                have e1 : id ≤ yi := by have := g1.out; omega
                simp [e1, g2.out, CV.flat]
              · intro x hx
                (try simp only [List.mem_append, List.mem_singleton] at hx)
                have := hmem.out
                have hyL : (⟨yi, yf, ya, yc, yks⟩ : CV) ∈ L := hy.out ▸ List.getElem_mem hjL
                grind
              · simp [hm.out]; omega
              · have h1 := hm.out
                have h2 := hQc.out
                have h3 := hyl.out
                have h4 := hkl.out
                subst h1 h2 h3 h4
                simpa [CV.cells] using hrow
            replace hI := hid hI
            go_wp2_with fail
            go_roundw
            case rel => exact ⟨j + 1, _, by omega, by go_num, rfl, hI.out⟩
            case measure => simp [intOf]; omega
          · have d2 : (yi == id) = false := by simpa using he
            have g2 := hid he
            clear he
            obtain ⟨x0, x1, x2⟩ := (hL1.out.below hB).one j hjL
            rw [hy.out] at x0 x1 x2
            simp only at x0 x1 x2
            rw [hyl.out] at x2
            have k0 := (pC.out.below hB).cell0
            have k1 := (pC.out.below hB).cell1
            have k2 := (pC.out.below hB).cell2
            go_wp2_with fail
            go_quiet (fail)
            have bd : Below wr.heap.size wr (wr.drewN nq) := below_drewN (Below.refl _ _) nq
            clear x0 x1 x2 k0 k1 k2
            replace hrow := owns_below hrow bd
            replace hB := hB.trans (bd.mono hB.size)
            clear bd
            generalize wr.drewN nq = wq1 at hrow hB ⊢
            clear nq
            obtain ⟨x0, x1, x2⟩ := (hL1.out.below hB).one j hjL
            rw [hy.out] at x0 x1 x2
            simp only at x0 x1 x2
            rw [hyl.out] at x2
            have k0 := (pC.out.below hB).cell0
            have k1 := (pC.out.below hB).cell1
            have k2 := (pC.out.below hB).cell2
            go_wp2_with fail
            go_quiet (fail)
            have bd : Below wq1.heap.size wq1 (wq1.drewN nq) := below_drewN (Below.refl _ _) nq
            clear x0 x1 x2 k0 k1 k2
            replace hrow := owns_below hrow bd
            replace hB := hB.trans (bd.mono hB.size)
            clear bd
            generalize wq1.drewN nq = wq2 at hrow hB ⊢
            clear nq
            obtain ⟨x0, x1, x2⟩ := (hL1.out.below hB).one j hjL
            rw [hy.out] at x0 x1 x2
            simp only at x0 x1 x2
            rw [hyl.out] at x2
            have k0 := (pC.out.below hB).cell0
            have k1 := (pC.out.below hB).cell1
            have k2 := (pC.out.below hB).cell2
            have bl := below_lit wq2 (.cells #[.int .i64 yi, .int .i64 yf, .slice ya yn yc] 34)
            have hP6 := hid (owns_below hrow bl)
            have hbase := hid (show w1.heap.size ≤ (wq2.alloc (.cells #[.int .i64 yi, .int .i64 yf, .slice ya yn yc] 34)).heap.size from Nat.le_trans hB.size bl.size)
            have hcl := hid (cat_lit wq2 34 [.int .i64 yi, .int .i64 yf, .slice ya yn yc] _ rfl)
            go_wp2_with (at_builtin; refine wpList_cat _ rfl (.tmp 38) (.tmp 43) 22 rfl w1.heap.size 34 i0 _ 3 40 Try.underlying22 hi0 hz0 hz1 hz2 rfl (by omega) u5 m Qc rfl hP6.out (some ⟨wq2.heap.size, 0, none⟩) 1 1 [.int .i64 yi, .int .i64 yf, .slice ya yn yc] rfl rfl hcl.out (by simp [Value.oneCell']) (by unfold maxLen; omega) (by omega) hbase.out ?_; intro v3 wp3 hr7 hg7 hv7; refine Hid.out ?_)
            refine hid ?_
            clear x0 x1 x2 k0 k1 k2
            replace hB := (hB.trans (bl.mono hB.size)).trans ((Kp.grown hg7).below (fun k hk => (World.ownsRow.lt hP6.out k hk).1) hbase.out)
            clear hrow
            have hrow := hr7
            clear hr7 hg7 hP6 hbase hcl bl hv7
            have hI : WtI w1 wp3 L ⟨id, fl, ka, kc, ks⟩ (j + 1) v3 true := by
              refine ⟨Q ++ [(⟨yi, yf, ya, yc, yks⟩ : CV)], ?_, ?_, ?_, ?_, hB⟩
              · rw [← hQ.out, wt_step hjL, hy.out]
                have e1 : id ≤ yi := by have := g1.out; omega
                simp [e1, g2.out, CV.flat]
              · intro x hx
                (try simp only [List.mem_append, List.mem_singleton] at hx)
                have := hmem.out
                have hyL : (⟨yi, yf, ya, yc, yks⟩ : CV) ∈ L := hy.out ▸ List.getElem_mem hjL
                grind
              · simp [hm.out]; omega
              · have h1 := hm.out
                have h2 := hQc.out
                have h3 := hyl.out
                have h4 := hkl.out
                subst h1 h2 h3 h4
                simpa [CV.cells] using hrow
            replace hI := hid hI
            go_wp2_with fail
            go_roundw
            case rel => exact ⟨j + 1, _, by omega, by go_num, rfl, hI.out⟩
            case measure => simp [intOf]; omega
      · have d1 : decide (id ≤ yi) = false := decide_eq_false hge
        have d2 : (yi == id) = false := by simp; omega
        have g1 := hid hge
        have g2 : Hid (¬ yi = id) := hid (by omega)
        clear hge
        cases bb with
        | false =>
          obtain ⟨x0, x1, x2⟩ := (hL1.out.below hB).one j hjL
          rw [hy.out] at x0 x1 x2
          simp only at x0 x1 x2
          rw [hyl.out] at x2
          have k0 := (pC.out.below hB).cell0
          have k1 := (pC.out.below hB).cell1
          have k2 := (pC.out.below hB).cell2
          go_wp2_with fail
          go_quiet (fail)
          have bd : Below wr.heap.size wr (wr.drewN nq) := below_drewN (Below.refl _ _) nq
          clear x0 x1 x2 k0 k1 k2
          replace hrow := owns_below hrow bd
          replace hB := hB.trans (bd.mono hB.size)
          clear bd
          generalize wr.drewN nq = wq1 at hrow hB ⊢
          clear nq
          obtain ⟨x0, x1, x2⟩ := (hL1.out.below hB).one j hjL
          rw [hy.out] at x0 x1 x2
          simp only at x0 x1 x2
          rw [hyl.out] at x2
          have k0 := (pC.out.below hB).cell0
          have k1 := (pC.out.below hB).cell1
          have k2 := (pC.out.below hB).cell2
          go_wp2_with fail
          go_quiet (fail)
          have bd : Below wq1.heap.size wq1 (wq1.drewN nq) := below_drewN (Below.refl _ _) nq
          clear x0 x1 x2 k0 k1 k2
          replace hrow := owns_below hrow bd
          replace hB := hB.trans (bd.mono hB.size)
          clear bd
          generalize wq1.drewN nq = wq2 at hrow hB ⊢
          clear nq
          obtain ⟨x0, x1, x2⟩ := (hL1.out.below hB).one j hjL
          rw [hy.out] at x0 x1 x2
          simp only at x0 x1 x2
          rw [hyl.out] at x2
          have k0 := (pC.out.below hB).cell0
          have k1 := (pC.out.below hB).cell1
          have k2 := (pC.out.below hB).cell2
          have bl := below_lit wq2 (.cells #[.int .i64 yi, .int .i64 yf, .slice ya yn yc] 34)
          have hP6 := hid (owns_below hrow bl)
          have hbase := hid (show w1.heap.size ≤ (wq2.alloc (.cells #[.int .i64 yi, .int .i64 yf, .slice ya yn yc] 34)).heap.size from Nat.le_trans hB.size bl.size)
          have hcl := hid (cat_lit wq2 34 [.int .i64 yi, .int .i64 yf, .slice ya yn yc] _ rfl)
          go_wp2_with (at_builtin; refine wpList_cat _ rfl (.tmp 38) (.tmp 43) 22 rfl w1.heap.size 34 i0 _ 3 40 Try.underlying22 hi0 hz0 hz1 hz2 rfl (by omega) u5 m Qc rfl hP6.out (some ⟨wq2.heap.size, 0, none⟩) 1 1 [.int .i64 yi, .int .i64 yf, .slice ya yn yc] rfl rfl hcl.out (by simp [Value.oneCell']) (by unfold maxLen; omega) (by omega) hbase.out ?_; intro v3 wp3 hr7 hg7 hv7; refine Hid.out ?_)
          refine hid ?_
          clear x0 x1 x2 k0 k1 k2
          replace hB := (hB.trans (bl.mono hB.size)).trans ((Kp.grown hg7).below (fun k hk => (World.ownsRow.lt hP6.out k hk).1) hbase.out)
          clear hrow
          have hrow := hr7
          clear hr7 hg7 hP6 hbase hcl bl hv7
          have hI : WtI w1 wp3 L ⟨id, fl, ka, kc, ks⟩ (j + 1) v3 false := by
            refine ⟨Q ++ [(⟨yi, yf, ya, yc, yks⟩ : CV)], ?_, ?_, ?_, ?_, hB⟩
            · rw [← hQ.out, wt_step hjL, hy.out]
              have e1 : ¬ id ≤ yi := by have := g1.out; omega
              simp [e1, g2.out, CV.flat]
            · intro x hx
              (try simp only [List.mem_append, List.mem_singleton] at hx)
              have := hmem.out
              have hyL : (⟨yi, yf, ya, yc, yks⟩ : CV) ∈ L := hy.out ▸ List.getElem_mem hjL
              grind
            · simp [hm.out]; omega
            · have h1 := hm.out
              have h2 := hQc.out
              have h3 := hyl.out
              have h4 := hkl.out
              subst h1 h2 h3 h4
              simpa [CV.cells] using hrow
          replace hI := hid hI
          go_wp2_with fail
          go_roundw
          case rel => exact ⟨j + 1, _, by omega, by go_num, rfl, hI.out⟩
          case measure => simp [intOf]; omega
        | true =>
          obtain ⟨x0, x1, x2⟩ := (hL1.out.below hB).one j hjL
          rw [hy.out] at x0 x1 x2
          simp only at x0 x1 x2
          rw [hyl.out] at x2
          have k0 := (pC.out.below hB).cell0
          have k1 := (pC.out.below hB).cell1
          have k2 := (pC.out.below hB).cell2
          go_wp2_with fail
          go_quiet (fail)
          have bd : Below wr.heap.size wr (wr.drewN nq) := below_drewN (Below.refl _ _) nq
          clear x0 x1 x2 k0 k1 k2
          replace hrow := owns_below hrow bd
          replace hB := hB.trans (bd.mono hB.size)
          clear bd
          generalize wr.drewN nq = wq1 at hrow hB ⊢
          clear nq
          obtain ⟨x0, x1, x2⟩ := (hL1.out.below hB).one j hjL
          rw [hy.out] at x0 x1 x2
          simp only at x0 x1 x2
          rw [hyl.out] at x2
          have k0 := (pC.out.below hB).cell0
          have k1 := (pC.out.below hB).cell1
          have k2 := (pC.out.below hB).cell2
          go_wp2_with fail
          go_quiet (fail)
          have bd : Below wq1.heap.size wq1 (wq1.drewN nq) := below_drewN (Below.refl _ _) nq
          clear x0 x1 x2 k0 k1 k2
          replace hrow := owns_below hrow bd
          replace hB := hB.trans (bd.mono hB.size)
          clear bd
          generalize wq1.drewN nq = wq2 at hrow hB ⊢
          clear nq
          obtain ⟨x0, x1, x2⟩ := (hL1.out.below hB).one j hjL
          rw [hy.out] at x0 x1 x2
          simp only at x0 x1 x2
          rw [hyl.out] at x2
          have k0 := (pC.out.below hB).cell0
          have k1 := (pC.out.below hB).cell1
          have k2 := (pC.out.below hB).cell2
          have bl := below_lit wq2 (.cells #[.int .i64 yi, .int .i64 yf, .slice ya yn yc] 34)
          have hP6 := hid (owns_below hrow bl)
          have hbase := hid (show w1.heap.size ≤ (wq2.alloc (.cells #[.int .i64 yi, .int .i64 yf, .slice ya yn yc] 34)).heap.size from Nat.le_trans hB.size bl.size)
          have hcl := hid (cat_lit wq2 34 [.int .i64 yi, .int .i64 yf, .slice ya yn yc] _ rfl)
          go_wp2_with (at_builtin; refine wpList_cat _ rfl (.tmp 38) (.tmp 43) 22 rfl w1.heap.size 34 i0 _ 3 40 Try.underlying22 hi0 hz0 hz1 hz2 rfl (by omega) u5 m Qc rfl hP6.out (some ⟨wq2.heap.size, 0, none⟩) 1 1 [.int .i64 yi, .int .i64 yf, .slice ya yn yc] rfl rfl hcl.out (by simp [Value.oneCell']) (by unfold maxLen; omega) (by omega) hbase.out ?_; intro v3 wp3 hr7 hg7 hv7; refine Hid.out ?_)
          refine hid ?_
          clear x0 x1 x2 k0 k1 k2
          replace hB := (hB.trans (bl.mono hB.size)).trans ((Kp.grown hg7).below (fun k hk => (World.ownsRow.lt hP6.out k hk).1) hbase.out)
          clear hrow
          have hrow := hr7
          clear hr7 hg7 hP6 hbase hcl bl hv7
          have hI : WtI w1 wp3 L ⟨id, fl, ka, kc, ks⟩ (j + 1) v3 true := by
            refine ⟨Q ++ [(⟨yi, yf, ya, yc, yks⟩ : CV)], ?_, ?_, ?_, ?_, hB⟩
            · rw [← hQ.out, wt_step hjL, hy.out]
              have e1 : ¬ id ≤ yi := by have := g1.out; omega
              simp [e1, g2.out, CV.flat]
            · intro x hx
              (try simp only [List.mem_append, List.mem_singleton] at hx)
              have := hmem.out
              have hyL : (⟨yi, yf, ya, yc, yks⟩ : CV) ∈ L := hy.out ▸ List.getElem_mem hjL
              grind
            · simp [hm.out]; omega
            · have h1 := hm.out
              have h2 := hQc.out
              have h3 := hyl.out
              have h4 := hkl.out
              subst h1 h2 h3 h4
              simpa [CV.cells] using hrow
          replace hI := hid hI
          go_wp2_with fail
          go_roundw
          case rel => exact ⟨j + 1, _, by omega, by go_num, rfl, hI.out⟩
          case measure => simp [intOf]; omega
    · obtain rfl : j = n := by omega
      have hQ2 := hQ.out
      rw [List.drop_eq_nil_of_le (by rw [hL.out]; exact Nat.le_refl _)] at hQ2
      have hkat : Hid (∀ k ∈ Q, KAt w1 0 k.a k.ks) := hid (fun k hk => by
        rcases hmem.out k hk with hk | rfl
        · exact hL1.out.kept k hk
        · exact hks1.out)
      replace hQ2 := hid hQ2
      cases bb with
      | true =>
        obtain ⟨a5, c5, rfl, hc5⟩ := owns_form hrow
        go_wp2
        go_ret
        refine ⟨a5, c5, _, Q, rfl, hm.out, by simpa [wgo, CV.flat] using hQ2.out, ?_, bnext b1 hB⟩
        exact latOf (base := w1.heap.size) (n := m) (c := c5) hkat.out (by rw [hm.out, hQc.out]; exact hrow) hB
      | false =>
        have k0 := (pC.out.below hB).cell0
        have k1 := (pC.out.below hB).cell1
        have k2 := (pC.out.below hB).cell2
        have bl := below_lit wr (.cells #[.int .i64 id, .int .i64 fl, .slice ka kn kc] 34)
        have hP6 := hid (owns_below hrow bl)
        have hbase := hid (show w1.heap.size ≤ (wr.alloc (.cells #[.int .i64 id, .int .i64 fl, .slice ka kn kc] 34)).heap.size from Nat.le_trans hB.size bl.size)
        have hcl := hid (cat_lit wr 34 [.int .i64 id, .int .i64 fl, .slice ka kn kc] _ rfl)
        go_wp2_with (at_builtin; refine wpList_cat _ rfl (.tmp 47) (.tmp 49) 22 rfl w1.heap.size 34 i0 _ 3 40 Try.underlying22 hi0 hz0 hz1 hz2 rfl (by omega) u5 m Qc rfl hP6.out (some ⟨wr.heap.size, 0, none⟩) 1 1 [.int .i64 id, .int .i64 fl, .slice ka kn kc] rfl rfl hcl.out (by simp [Value.oneCell']) (by unfold maxLen; omega) (by omega) hbase.out ?_; intro v1 wp1 hr7 hg7 hv7; refine Hid.out ?_)
        refine hid ?_
        clear k0 k1 k2
        replace hB := (hB.trans (bl.mono hB.size)).trans ((Kp.grown hg7).below (fun k hk => (World.ownsRow.lt hP6.out k hk).1) hbase.out)
        clear hrow
        have hrow := hr7
        clear hr7 hg7 hP6 hbase hcl bl hv7
        obtain ⟨a5, c5, rfl, hc5⟩ := owns_form hrow
        go_wp2
        go_ret
        refine ⟨a5, c5, _, Q ++ [(⟨id, fl, ka, kc, ks⟩ : CV)], rfl, by simp [hm.out], by simpa [wgo, CV.flat] using hQ2.out, ?_, bnext b1 hB⟩
        refine latOf (w := w1) (base := w1.heap.size) (n := m + 1) (c := c5) (fun k hk => ?_) ?_ hB
        · rcases List.mem_append.1 hk with hk | hk
          · exact hkat.out k hk
          · rw [List.mem_singleton.1 hk]; exact hks1.out
        · have h1 := hm.out
          have h2 := hQc.out
          have h4 := hkl.out
          subst h1 h2 h4
          simpa [CV.cells] using hrow


end Go.Proofs.Ythjggjjocfbjcaa
