/- CopyClients. -/
import Derived.Test.YthjggjjocfbjcaaAwake
import Derived.Test.YthjggjjocfbjcaaRefTake
namespace Go.Proofs.Ythjggjjocfbjcaa
open Go.RowKit

theorem kp_cell {S : Nat → Prop} {w w' : World} (h : Kp S w w') {b o : Nat} {v : Value} (hc : w.cell? ⟨b, o, none⟩ = some v) (hn : ¬ S b) : w'.cell? ⟨b, o, none⟩ = some v := by
  have hb := h.block b (World.block_lt_of_cell? _ _ hc) hn
  unfold World.cell? at hc ⊢
  simp only [hb]
  exact hc

theorem step_ap {ops : Array Oper} {o : Oper} {a : Act} {w w' : World} {K : Act → World → Prop} {Q : Exit → Act → World → Prop} {E : Prop} (hg : o.guard = none) (s x : Operand) (t : Nat)
    (ho : o.op = .call { callee := .builtin .append, args := #[s, x], argTypes := #[t, t] }) (hty : o.type = t) (u v r : Value) (hs : a.eval s = u) (hx : a.eval x = v)
    (hrun : (Builtin.append_ #[t, t] t #[u, v]).run Try.prog w = .ok r w') (hK : K (a.put o.dst r) w') :
    if Region.wanted o (yielded ops a.tmps) = true then Oper.wp Try.prog o a w K Q else E := by
  have hw : Region.wanted o (yielded ops a.tmps) = true := by simp [Region.wanted, hg]
  rw [if_pos hw]
  unfold Oper.wp
  simp [execOp, ho, hty, resolve, invoke, builtin, hs, hx, hrun, Result.andThen]
  exact hK

/-- The copy of what one client keeps, so far. -/
def CcK (wa wi : World) (g : Nat) (id fl : Int) (ks : List KV) (t : Nat) : Prop :=
  ∃ (v : Value) (Q : List KV), Q.map KV.flat = (ks.take t).map KV.flat ∧ CBlk wi g (.int .i64 id) (.int .i64 fl) v ∧ KOwn 36 wi (wa.heap.size + 1) v Q ∧ Below wa.heap.size wa wi ∧ wa.heap.size + 1 ≤ wi.heap.size

set_option linter.unusedSimpArgs false in
set_option maxRecDepth 100000 in
set_option maxHeartbeats 8000000 in
theorem copycl_any (a : Option Addr) (n c lo : Nat) (L : List CV) (w : World) (hL : L.length = n) (h : LAt w lo a L) (hn : n * 40 ≤ SMALL) (hk : ∀ x ∈ L, x.ks.length * 32 ≤ SMALL) :
    Calls Try.prog 16 #[.slice a n c] w fun e w' => ∃ v Q, e = .returned v ∧ Q.map CV.flat = L.map CV.flat ∧ COwn w' w.heap.size v Q ∧ Below w.heap.size w w' := by
  unfold SMALL at hn
  replace hL := hid hL
  replace hk := hid hk
  obtain ⟨i0, hi0, hz0, hz1, hz2⟩ := info_parts info34z
  obtain ⟨i1, hi1, hy0, hy1, hy2⟩ := info_parts info36z
  go_enter Try.func16, Try.ntmps16
  go_wp2_with fail
  go_loopw [3, 4] (fun v i wr => ∃ j : Nat, j ≤ n ∧ i = .int .i64 (j : Int) ∧ CcI w wr L j v) (fun _ i _ => n - (intOf i).toNat)
  case atStart => exact ⟨0, Nat.zero_le _, rfl, [], rfl, COwn.nil _ _, Below.refl _ _⟩
  case round =>
    obtain ⟨j, hj, rfl, Q, hQ, hP, hB⟩ := hrel
    by_cases hlt : j < n
    · have hjL : j < L.length := by rw [hL.out]; exact hlt
      obtain ⟨b, o, e⟩ := h.place (by intro e; rw [e] at hjL; simp at hjL)
      subst e
      have hr := h.below hB
      have hsh := hk.out _ (List.getElem_mem hjL)
      have hQl : Q.length = j := by have := congrArg List.length hQ; simpa [Nat.min_eq_left (Nat.le_of_lt hjL)] using this
      obtain ⟨q, hq⟩ : ∃ q, L[j] = q := ⟨_, rfl⟩
      obtain ⟨x0, x1, x2⟩ := hr.one j hjL
      rw [hq] at hsh x0 x1 x2
      obtain ⟨id, fl, a1, c1, ks⟩ := q
      simp only at hsh x0 x1 x2
      obtain ⟨m, hl⟩ : ∃ x, ks.length = x := ⟨_, rfl⟩
      rw [hl] at hsh x2
      unfold SMALL at hsh
      replace hl := hid hl
      replace hq := hid hq
      replace hQl := hid hQl
      replace hQ := hid hQ
      replace hP := hid hP
      have X0 : wr.drew.cell? ⟨b, o + j * 3, none⟩ = some (.int .i64 id) := x0
      have X1 : wr.drew.cell? ⟨b, o + j * 3 + 1, none⟩ = some (.int .i64 fl) := x1
      have hbx := World.block_lt_of_cell? _ _ x0
      have bd := drew_below wr
      have hra := hr.below bd
      replace hr := hid hr
      go_wp2_with fail
      go_region
      have pa := (CBlk.new wr (.int .i64 id) (.int .i64 fl) (.slice none 0 0)).below (drew_below _)
      have b4 := bnext (below_lit wr (.cells #[.int .i64 id, .int .i64 fl, .slice none 0 0] 34)) (drew_below _)
      have hs4 : ((wr.alloc (.cells #[.int .i64 id, .int .i64 fl, .slice none 0 0] 34)).drew).heap.size = wr.heap.size + 1 := by show (wr.alloc _).heap.size = _; simp
      have hI0 : CcK wr ((wr.alloc (.cells #[.int .i64 id, .int .i64 fl, .slice none 0 0] 34)).drew) wr.heap.size id fl ks 0 := ⟨_, [], rfl, pa, KOwn.nil _ _ _, b4, by rw [hs4]; exact Nat.le_refl _⟩
      clear pa b4 hs4 X0 X1 x0 x1 x2 bd hra
      have hra := hr.out
      obtain ⟨wb, hwb⟩ : ∃ W, W = (wr.alloc (.cells #[.int .i64 id, .int .i64 fl, .slice none 0 0] 34)).drew := ⟨_, rfl⟩
      rw [← hwb] at hI0 ⊢
      clear hwb
      obtain ⟨wa, hwa⟩ : ∃ W, W = wr := ⟨_, rfl⟩
      subst hwa
      obtain ⟨g, hgr⟩ : ∃ g, g = wa.heap.size := ⟨_, rfl⟩
      rw [← hgr]
      conv at hI0 => arg 3; rw [← hgr]
      have hgr2 : g ≤ wa.heap.size ∧ wa.heap.size ≤ g := by omega
      clear hgr
      replace hI0 := hid hI0
      replace hra := hid hra
      go_wp2_with fail
      go_loopw [6] (fun i wi => ∃ t : Nat, t ≤ m ∧ i = .int .i64 (t : Int) ∧ CcK wa wi g id fl ks t) (fun i _ => m - (intOf i).toNat)
      case atStart => exact ⟨0, Nat.zero_le _, rfl, hI0.out⟩
      case round =>
        obtain ⟨t, ht, rfl, v, K, hK, hcb, hKo, hBi, hszi⟩ := hrel
        obtain ⟨x0, x1, x2⟩ := (hra.out.below hBi).one j hjL
        rw [hq.out] at x0 x1 x2
        simp only at x0 x1 x2
        rw [hl.out] at x2
        by_cases htm : t < m
        · have htk : t < ks.length := by rw [hl.out]; exact htm
          have hka := hra.out.kept _ (List.getElem_mem hjL)
          rw [hq.out] at hka
          simp only at hka
          obtain ⟨kb, ko, e⟩ := hka.place (by intro e; rw [e] at htk; simp at htk)
          subst e
          have bd2 := drew_below wr
          have hkr := (hka.below hBi).below bd2
          obtain ⟨z0, z1⟩ := hkr.one t htk
          have hat := hkr.body _ (List.getElem_mem htk)
          have hs1 := hkr.short _ (List.getElem_mem htk)
          unfold SMALL at hs1
          have hKl : K.length = t := by have := congrArg List.length hK; simpa [Nat.min_eq_left (Nat.le_of_lt htk)] using this
          obtain ⟨y, hy⟩ : ∃ y, y = ks[t] := ⟨_, rfl⟩
          rw [← hy] at z0 z1 hat hs1
          replace hy := hid hy
          obtain ⟨num, ya, yc, body⟩ := y
          simp only at z0 z1 hat hs1
          obtain ⟨len, hlen⟩ : ∃ x, body.length = x := ⟨_, rfl⟩
          rw [hlen] at z1 hs1
          replace hlen := hid hlen
          have hrow := hKo.row
          rw [hKl] at hrow
          have k2 := hcb.cell2
          have k2d : wr.drew.cell? ⟨g, 2, none⟩ = some v := k2
          have x2d : wr.drew.cell? ⟨b, o + j * 3 + 2, none⟩ = some (.slice (some ⟨kb, ko, none⟩) m c1) := x2
          have hcp := copyb_any ya yc len body wr.drew hlen.out hs1 hat
          have hbz := World.block_lt_of_cell? _ _ z0
          have hbg := World.block_lt_of_cell? _ _ k2d
          have hbx2 := World.block_lt_of_cell? _ _ x2d
          have hgo : Hid (∀ k, v.ownBlock = some k → k ≠ g) := hid fun k hk' e => by have := (World.ownsRow.lt hrow k hk').1; omega
          have hbw : b < wa.heap.size := World.block_lt_of_cell? _ _ (hra.out.one j hjL).1
          have hkw : kb < wa.heap.size := World.block_lt_of_cell? _ _ (hka.one t htk).1
          have hoff : Hid (∀ k, v.ownBlock = some k → k ≠ b ∧ k ≠ kb) := hid fun k hk' => by have := (World.ownsRow.lt hrow k hk').1; omega
          have hbg1 : ¬ (b = g) := by omega
          have hbg2 : ¬ (kb = g) := by omega
          replace hKl := hid hKl
          replace hK := hid hK
          replace hKo := hid hKo
          replace hkr := hid hkr
          replace hka := hid hka
          replace hrow := hid hrow
          replace hcb := hid hcb
          have hcp2 : Calls Try.prog 55 #[.slice ya len yc] wr.drew fun e w5 => ∃ a5 c5 a7 c7 w7, e = .returned (.slice a5 len c5) ∧ w5.cell? ⟨g, 2, none⟩ = some v ∧ g < w5.heap.size ∧ w5.cell? ⟨b, o + j * 3 + 2, none⟩ = some (.slice (some ⟨kb, ko, none⟩) m c1) ∧ w5.cell? ⟨kb, ko + t * 2, none⟩ = some (.int .i64 num) ∧ Hid ((Builtin.append_ #[32, 32] 32 #[v, .slice (some ⟨w5.heap.size, 0, none⟩) 1 1]).run Try.prog (w5.alloc (.cells #[.int .i64 num, .slice a5 len c5] 36)) = .ok (.slice a7 (t + 1) c7) w7) ∧ w7.cell? ⟨g, 2, none⟩ = some v ∧ w7.frozen? ⟨g, 2, none⟩ = false ∧ Hid (CcK wa (w7.setCell ⟨g, 2, none⟩ (.slice a7 (t + 1) c7)) g id fl ks (t + 1)) ∧ Hid (w5.cell? ⟨b, o + j * 3 + 2, none⟩ = some (.slice (some ⟨kb, ko, none⟩) m c1) ∧ w5.cell? ⟨kb, ko + t * 2, none⟩ = some (.int .i64 num) ∧ w5.cell? ⟨kb, ko + t * 2 + 1, none⟩ = some (.slice ya len yc)) ∧ Hid ((w5.alloc (.cells #[.int .i64 num, .slice a5 len c5] 36)).cell? ⟨b, o + j * 3 + 2, none⟩ = some (.slice (some ⟨kb, ko, none⟩) m c1) ∧ (w5.alloc (.cells #[.int .i64 num, .slice a5 len c5] 36)).cell? ⟨kb, ko + t * 2, none⟩ = some (.int .i64 num) ∧ (w5.alloc (.cells #[.int .i64 num, .slice a5 len c5] 36)).cell? ⟨kb, ko + t * 2 + 1, none⟩ = some (.slice ya len yc)) ∧ Hid (w7.cell? ⟨b, o + j * 3 + 2, none⟩ = some (.slice (some ⟨kb, ko, none⟩) m c1) ∧ w7.cell? ⟨kb, ko + t * 2, none⟩ = some (.int .i64 num) ∧ w7.cell? ⟨kb, ko + t * 2 + 1, none⟩ = some (.slice ya len yc)) ∧ Hid ((w7.setCell ⟨g, 2, none⟩ (.slice a7 (t + 1) c7)).cell? ⟨b, o + j * 3 + 2, none⟩ = some (.slice (some ⟨kb, ko, none⟩) m c1) ∧ (w7.setCell ⟨g, 2, none⟩ (.slice a7 (t + 1) c7)).cell? ⟨kb, ko + t * 2, none⟩ = some (.int .i64 num) ∧ (w7.setCell ⟨g, 2, none⟩ (.slice a7 (t + 1) c7)).cell? ⟨kb, ko + t * 2 + 1, none⟩ = some (.slice ya len yc)) := by
            refine hcp.mono ?_
            rintro e w5 ⟨a5, c5, rfl, ho5, hb5⟩
            have y3 : w5.cell? ⟨g, 2, none⟩ = some v := (hb5.cell (p := ⟨g, 2, none⟩) hbg).trans k2d
            have l5 : g < w5.heap.size := World.block_lt_of_cell? _ _ y3
            have y4 : w5.cell? ⟨b, o + j * 3 + 2, none⟩ = some (.slice (some ⟨kb, ko, none⟩) m c1) := (hb5.cell (p := ⟨b, o + j * 3 + 2, none⟩) hbx2).trans x2d
            have y5 : w5.cell? ⟨kb, ko + t * 2, none⟩ = some (.int .i64 num) := (hb5.cell (p := ⟨kb, ko + t * 2, none⟩) hbz).trans z0
            have B5 := bnext bd2 hb5
            have bl6 := below_lit w5 (.cells #[.int .i64 num, .slice a5 len c5] 36)
            have hr6 := owns_below (owns_below hrow.out B5) bl6
            have hcl := cat_lit w5 36 [.int .i64 num, .slice a5 len c5] _ rfl
            have hbase : wa.heap.size + 1 ≤ (w5.alloc (.cells #[.int .i64 num, .slice a5 len c5] 36)).heap.size := Nat.le_trans hszi (bnext B5 bl6).size
            have hc6 := (hcb.out.below B5).below bl6
            obtain ⟨v7, w7, hrun, hr7, hg7, hv7⟩ := cat_run (w5.alloc (.cells #[.int .i64 num, .slice a5 len c5] 36)) (wa.heap.size + 1) 32 32 36 i1 _ 2 32 Try.underlying32 hi1 hy0 hy1 hy2 rfl (by omega) v t (K.flatMap KV.cells) hr6 (some ⟨w5.heap.size, 0, none⟩) 1 1 [.int .i64 num, .slice a5 len c5] rfl hcl (by simp [Value.oneCell']) (by unfold maxLen; omega) (by omega) hbase
            obtain ⟨a7, c7, rfl, hcc7⟩ := owns_form hr7
            have hkg := Kp.grown hg7
            have hc7 := hc6.kp hkg (fun e => hgo.out g e rfl)
            have y6 : w5.cell? ⟨kb, ko + t * 2 + 1, none⟩ = some (.slice ya len yc) := (hb5.cell (p := ⟨kb, ko + t * 2 + 1, none⟩) hbz).trans z1
            have SS5 : w5.cell? ⟨b, o + j * 3 + 2, none⟩ = some (.slice (some ⟨kb, ko, none⟩) m c1) ∧ w5.cell? ⟨kb, ko + t * 2, none⟩ = some (.int .i64 num) ∧ w5.cell? ⟨kb, ko + t * 2 + 1, none⟩ = some (.slice ya len yc) := ⟨y4, y5, y6⟩
            have SS6 : (w5.alloc (.cells #[.int .i64 num, .slice a5 len c5] 36)).cell? ⟨b, o + j * 3 + 2, none⟩ = some (.slice (some ⟨kb, ko, none⟩) m c1) ∧ (w5.alloc (.cells #[.int .i64 num, .slice a5 len c5] 36)).cell? ⟨kb, ko + t * 2, none⟩ = some (.int .i64 num) ∧ (w5.alloc (.cells #[.int .i64 num, .slice a5 len c5] 36)).cell? ⟨kb, ko + t * 2 + 1, none⟩ = some (.slice ya len yc) := ⟨(bl6.cell (p := ⟨b, o + j * 3 + 2, none⟩) (World.block_lt_of_cell? _ _ y4)).trans y4, (bl6.cell (p := ⟨kb, ko + t * 2, none⟩) (World.block_lt_of_cell? _ _ y5)).trans y5, (bl6.cell (p := ⟨kb, ko + t * 2 + 1, none⟩) (World.block_lt_of_cell? _ _ y6)).trans y6⟩
            have SS7 : w7.cell? ⟨b, o + j * 3 + 2, none⟩ = some (.slice (some ⟨kb, ko, none⟩) m c1) ∧ w7.cell? ⟨kb, ko + t * 2, none⟩ = some (.int .i64 num) ∧ w7.cell? ⟨kb, ko + t * 2 + 1, none⟩ = some (.slice ya len yc) := ⟨kp_cell hkg SS6.1 (fun e => (hoff.out b e).1 rfl), kp_cell hkg SS6.2.1 (fun e => (hoff.out kb e).2 rfl), kp_cell hkg SS6.2.2 (fun e => (hoff.out kb e).2 rfl)⟩
            have hks0 : Kp (fun k => k = g) w7 (w7.setCell ⟨g, 2, none⟩ (.slice a7 (t + 1) c7)) := (Kp.refl (fun k => k = g) w7).setCell (p := ⟨g, 2, none⟩) rfl _
            refine ⟨a5, c5, a7, c7, w7, rfl, y3, l5, y4, y5, hid hrun, hc7.cell2, hc7.free 2, hid ?_, hid SS5, hid SS6, hid SS7, hid ⟨kp_cell hks0 SS7.1 hbg1, kp_cell hks0 SS7.2.1 hbg2, kp_cell hks0 SS7.2.2 hbg2⟩⟩
            have hks : Kp (fun k => k = g) w7 (w7.setCell ⟨g, 2, none⟩ (.slice a7 (t + 1) c7)) := (Kp.refl (fun k => k = g) w7).setCell (p := ⟨g, 2, none⟩) rfl _
            have hl2 := hlen.out
            have hq2 := hKl.out
            have hK7 : KOwn 36 w7 (wa.heap.size + 1) (.slice a7 (t + 1) c7) (K ++ [⟨num, a5, c5, body⟩]) := hKo.out.more (q := ⟨num, a5, c5, body⟩) (by decide) (bnext B5 bl6) (by subst hl2; exact (ho5.below bl6).le bd2.size) (by show body.length ≤ SMALL; unfold SMALL; omega) hszi (by subst hl2; rw [hq2]; exact hr7) hg7
            have hB7 : Below wa.heap.size wa w7 := (hBi.trans ((bnext B5 bl6).mono hBi.size)).trans (hkg.below (fun k hk => by have := (World.ownsRow.lt hr6 k hk).1; omega) (by omega))
            refine ⟨_, K ++ [⟨num, a5, c5, body⟩], kflat_snoc htk _ hK.out (by rw [← hy.out]; rfl), hc7.set2 _, ?_, ?_, ?_⟩
            · refine hK7.kp hks (fun k hk e => ?_) (fun q hq' k hk e => ?_)
              · have := (World.ownsRow.lt hK7.row k hk).1; omega
              · have := ((hK7.own q hq').lt k hk).1; omega
            · exact hB7.trans (hks.below (fun k hk => by omega) hB7.size)
            · have e1 : (w7.setCell ⟨g, 2, none⟩ (.slice a7 (t + 1) c7)).heap.size = w7.heap.size := by simp
              rw [e1]
              have := hc7.lt
              omega
          clear hcp
          go_wp2_with fail
          refine wp_region_held_drew (S := fun w' : World => w'.cell? ⟨b, o + j * 3 + 2, none⟩ = some (.slice (some ⟨kb, ko, none⟩) m c1) ∧ w'.cell? ⟨kb, ko + t * 2, none⟩ = some (.int .i64 num) ∧ w'.cell? ⟨kb, ko + t * 2 + 1, none⟩ = some (.slice ya len yc)) (by kernel_rfl) ⟨x2d, z0, z1⟩ (fun hHeld => ?_)
          refine wpAnyH_take (i := 0) (v := ?v1) rfl (by kernel_rfl) (by kernel_rfl) (by kernel_rfl) (fun _ _ _ h => h) (Or.inl ⟨by rfl, ?hy1⟩) hHeld ?rest1
          case hy1 =>
            intro w hSw
            (try dsimp only at hSw)
            go_simp
            first | done | with_reducible rfl
          (try simp only [Act.put, List.setIfInBounds_toArray, List.set_cons_zero, List.set_cons_succ])
          refine wpAnyH_take (i := 2) (v := ?v2) rfl (by kernel_rfl) (by kernel_rfl) (by kernel_rfl) (fun _ _ _ h => h) (Or.inl ⟨by rfl, ?hy2⟩) hHeld ?rest2
          case hy2 =>
            intro w hSw
            (try dsimp only at hSw)
            go_simp
            first | done | with_reducible rfl
          (try simp only [Act.put, List.setIfInBounds_toArray, List.set_cons_zero, List.set_cons_succ])
          refine wpAnyH_take (i := 3) (v := ?v3) rfl (by kernel_rfl) (by kernel_rfl) (by kernel_rfl) (fun _ _ _ h => h) (Or.inl ⟨by rfl, ?hy3⟩) hHeld ?rest3
          case hy3 =>
            intro w hSw
            (try dsimp only at hSw)
            go_simp
            first | done | with_reducible rfl
          (try simp only [Act.put, List.setIfInBounds_toArray, List.set_cons_zero, List.set_cons_succ])
          refine wpAnyH_take (i := 4) (v := ?v4) rfl (by kernel_rfl) (by kernel_rfl) (by kernel_rfl) (fun _ _ _ h => h) (Or.inl ⟨by rfl, ?hy4⟩) hHeld ?rest4
          case hy4 =>
            intro w hSw
            (try dsimp only at hSw)
            go_simp
            first | done | with_reducible rfl
          (try simp only [Act.put, List.setIfInBounds_toArray, List.set_cons_zero, List.set_cons_succ])
          refine wpAnyH_take (i := 5) (v := ?v5) rfl (by kernel_rfl) (by kernel_rfl) (by kernel_rfl) (fun _ _ _ h => h) (Or.inl ⟨by rfl, ?hy5⟩) hHeld ?rest5
          case hy5 =>
            intro w hSw
            (try dsimp only at hSw)
            go_simp
            first | done | with_reducible rfl
          (try simp only [Act.put, List.setIfInBounds_toArray, List.set_cons_zero, List.set_cons_succ])
          refine wpAnyH_take (i := 6) (v := ?v6) rfl (by kernel_rfl) (by kernel_rfl) (by kernel_rfl) (fun _ _ _ h => h) (Or.inl ⟨by rfl, ?hy6⟩) hHeld ?rest6
          case hy6 =>
            intro w hSw
            (try dsimp only at hSw)
            go_simp
            first | done | with_reducible rfl
          (try simp only [Act.put, List.setIfInBounds_toArray, List.set_cons_zero, List.set_cons_succ])
          refine wpAnyH_take (i := 7) (v := ?v7) rfl (by kernel_rfl) (by kernel_rfl) (by kernel_rfl) (fun _ _ _ h => h) (Or.inl ⟨by rfl, ?hy7⟩) hHeld ?rest7
          case hy7 =>
            intro w hSw
            (try dsimp only at hSw)
            go_simp
            first | done | with_reducible rfl
          (try simp only [Act.put, List.setIfInBounds_toArray, List.set_cons_zero, List.set_cons_succ])
          refine wpAnyH_take (i := 8) (v := ?v8) rfl (by kernel_rfl) (by kernel_rfl) (by kernel_rfl) (fun _ _ _ h => h) (Or.inl ⟨by rfl, ?hy8⟩) hHeld ?rest8
          case hy8 =>
            intro w hSw
            (try dsimp only at hSw)
            go_simp
            first | done | with_reducible rfl
          (try simp only [Act.put, List.setIfInBounds_toArray, List.set_cons_zero, List.set_cons_succ])
          refine wpAnyH_take (i := 9) (v := ?v9) rfl (by kernel_rfl) (by kernel_rfl) (by kernel_rfl) (fun _ _ _ h => h) (Or.inl ⟨by rfl, ?hy9⟩) hHeld ?rest9
          case hy9 =>
            intro w hSw
            (try dsimp only at hSw)
            go_simp
            first | done | with_reducible rfl
          (try simp only [Act.put, List.setIfInBounds_toArray, List.set_cons_zero, List.set_cons_succ])
          refine wpAnyH_take (i := 10) (v := ?v10) rfl (by kernel_rfl) (by kernel_rfl) (by kernel_rfl) (fun _ _ _ h => h) (Or.inl ⟨by rfl, ?hy10⟩) hHeld ?rest10
          case hy10 =>
            intro w hSw
            (try dsimp only at hSw)
            go_simp
            first | done | with_reducible rfl
          (try simp only [Act.put, List.setIfInBounds_toArray, List.set_cons_zero, List.set_cons_succ])
          refine wpAnyH_take (i := 11) (v := ?v11) rfl (by kernel_rfl) (by kernel_rfl) (by kernel_rfl) (fun _ _ _ h => h) (Or.inl ⟨by rfl, ?hy11⟩) hHeld ?rest11
          case hy11 =>
            intro w hSw
            (try dsimp only at hSw)
            go_simp
            first | done | with_reducible rfl
          (try simp only [Act.put, List.setIfInBounds_toArray, List.set_cons_zero, List.set_cons_succ])
          refine wpAnyH_take (i := 12) (v := ?v12) rfl (by kernel_rfl) (by kernel_rfl) (by kernel_rfl) (fun _ _ _ h => h) (Or.inl ⟨by rfl, ?hy12⟩) hHeld ?rest12
          case hy12 =>
            intro w hSw
            (try dsimp only at hSw)
            go_simp
            first | done | with_reducible rfl
          (try simp only [Act.put, List.setIfInBounds_toArray, List.set_cons_zero, List.set_cons_succ])
          refine wpAnyH_take (i := 13) (v := ?v13) rfl (by kernel_rfl) (by kernel_rfl) (by kernel_rfl) (fun _ _ _ h => h) (Or.inl ⟨by rfl, ?hy13⟩) hHeld ?rest13
          case hy13 =>
            intro w hSw
            (try dsimp only at hSw)
            go_simp
            first | done | with_reducible rfl
          (try simp only [Act.put, List.setIfInBounds_toArray, List.set_cons_zero, List.set_cons_succ])
          refine wpAnyH_take (i := 14) (v := ?v14) rfl (by kernel_rfl) (by kernel_rfl) (by kernel_rfl) (fun _ _ _ h => h) (Or.inl ⟨by rfl, ?hy14⟩) hHeld ?rest14
          case hy14 =>
            intro w hSw
            (try dsimp only at hSw)
            go_simp
            first | done | with_reducible rfl
          (try simp only [Act.put, List.setIfInBounds_toArray, List.set_cons_zero, List.set_cons_succ])
          refine wpAnyH_take (i := 15) (v := ?v15) rfl (by kernel_rfl) (by kernel_rfl) (by kernel_rfl) (fun _ _ _ h => h) (Or.inl ⟨by rfl, ?hy15⟩) hHeld ?rest15
          case hy15 =>
            intro w hSw
            (try dsimp only at hSw)
            go_simp
            first | done | with_reducible rfl
          (try simp only [Act.put, List.setIfInBounds_toArray, List.set_cons_zero, List.set_cons_succ])
          refine wpAnyH_take (i := 16) (v := ?v16) rfl (by kernel_rfl) (by kernel_rfl) (by kernel_rfl) (fun _ _ _ h => h) (Or.inl ⟨by rfl, ?hy16⟩) hHeld ?rest16
          case hy16 =>
            intro w hSw
            (try dsimp only at hSw)
            go_simp
            first | done | with_reducible rfl
          (try simp only [Act.put, List.setIfInBounds_toArray, List.set_cons_zero, List.set_cons_succ])
          refine wpAnyH_take (i := 17) (v := ?v17) rfl (by kernel_rfl) (by kernel_rfl) (by kernel_rfl) (fun _ _ _ h => h) (Or.inl ⟨by rfl, ?hy17⟩) hHeld ?rest17
          case hy17 =>
            intro w hSw
            (try dsimp only at hSw)
            go_simp
            first | done | with_reducible rfl
          (try simp only [Act.put, List.setIfInBounds_toArray, List.set_cons_zero, List.set_cons_succ])
          refine wpAnyH_take (i := 18) (v := ?v18) rfl (by kernel_rfl) (by kernel_rfl) (by kernel_rfl) (fun _ _ _ h => h) (Or.inl ⟨by rfl, ?hy18⟩) hHeld ?rest18
          case hy18 =>
            intro w hSw
            (try dsimp only at hSw)
            go_simp
            first | done | with_reducible rfl
          (try simp only [Act.put, List.setIfInBounds_toArray, List.set_cons_zero, List.set_cons_succ])
          refine wpAnyH_take (i := 19) (v := ?v19) rfl (by kernel_rfl) (by kernel_rfl) (by kernel_rfl) (fun _ _ _ h => h) (Or.inl ⟨by rfl, ?hy19⟩) hHeld ?rest19
          case hy19 =>
            intro w hSw
            (try dsimp only at hSw)
            go_simp
            first | done | with_reducible rfl
          (try simp only [Act.put, List.setIfInBounds_toArray, List.set_cons_zero, List.set_cons_succ])
          refine wpAnyH_ready (rs := [1, 20]) (by kernel_rfl) (by simp) ?_
          refine AllReadyH.cons rfl (fun K hK => ?_) (AllReadyH.cons rfl (fun K hK => ?_) AllReadyH.nil)
          · go_simp
            refine hK.out _ _ hHeld (fun hHeld => ?_)
            (try simp only [Act.put, List.setIfInBounds_toArray, List.set_cons_zero, List.set_cons_succ])
            refine wpAnyH_ready (rs := [20]) (by kernel_rfl) (by simp) ?_
            refine AllReadyH.cons rfl (fun K hK => ?_) AllReadyH.nil
            refine step_call rfl 55 _ _ rfl Try.f55 Try.func55 (by kernel_rfl) (by kernel_rfl) #[.slice ya len yc] (by simp [Act.eval]) hcp2 ?_
            rintro e w5 ⟨a5, c5, a7, c7, w7, rfl, y3, l5, y4, y5, hrun, y7, f7, hnext, T5, T6, T7, T8⟩
            refine ⟨_, rfl, hK.out _ _ T5.out (fun hHeld => ?_)⟩
            (try simp only [Act.put, List.setIfInBounds_toArray, List.set_cons_zero, List.set_cons_succ])
            refine wpAnyH_take (i := 21) (v := ?v21) rfl (by kernel_rfl) (by kernel_rfl) (by kernel_rfl) (fun _ _ _ h => h) (Or.inl ⟨by rfl, ?hy21⟩) hHeld ?rest21
            case hy21 =>
              intro w hSw
              (try dsimp only at hSw)
              go_simp
              first | done | with_reducible rfl
            (try simp only [Act.put, List.setIfInBounds_toArray, List.set_cons_zero, List.set_cons_succ])
            refine wpAnyH_ready (rs := [22]) (by kernel_rfl) (by simp) ?_
            refine AllReadyH.cons rfl (fun K hK => ?_) AllReadyH.nil
            go_simp
            refine hK.out _ _ T6.out (fun hHeld => ?_)
            (try simp only [Act.put, List.setIfInBounds_toArray, List.set_cons_zero, List.set_cons_succ])
            refine wpAnyH_ready (rs := [23]) (by kernel_rfl) (by simp) ?_
            refine AllReadyH.cons rfl (fun K hK => ?_) AllReadyH.nil
            refine step_ap rfl (.tmp 35) (.tmp 56) 32 rfl rfl v (.slice (some ⟨w5.heap.size, 0, none⟩) 1 1) _ rfl rfl hrun.out ?_
            refine hK.out _ _ T7.out (fun hHeld => ?_)
            (try simp only [Act.put, List.setIfInBounds_toArray, List.set_cons_zero, List.set_cons_succ])
            refine wpAnyH_take (i := 24) (v := ?v201) rfl (by kernel_rfl) (by kernel_rfl) (by kernel_rfl) (fun _ _ _ h => h) (Or.inl ⟨by rfl, ?hy201⟩) hHeld ?rest201
            case hy201 =>
              intro w hSw
              (try dsimp only at hSw)
              go_simp
              first | done | with_reducible rfl
            (try simp only [Act.put, List.setIfInBounds_toArray, List.set_cons_zero, List.set_cons_succ])
            refine wpAnyH_ready (rs := [25]) (by kernel_rfl) (by simp) ?_
            refine AllReadyH.cons rfl (fun K hK => ?_) AllReadyH.nil
            go_simp
            refine hK.out _ _ T8.out (fun hHeld => ?_)
            (try simp only [Act.put, List.setIfInBounds_toArray, List.set_cons_zero, List.set_cons_succ])
            refine wpAnyH_done (by kernel_rfl) ?_ _
            go_wp2_with fail
            go_roundw
            case rel => exact ⟨t + 1, by omega, by go_num, hnext.out⟩
            case measure => simp [intOf]; omega
          · refine step_call rfl 55 _ _ rfl Try.f55 Try.func55 (by kernel_rfl) (by kernel_rfl) #[.slice ya len yc] (by simp [Act.eval]) hcp2 ?_
            rintro e w5 ⟨a5, c5, a7, c7, w7, rfl, y3, l5, y4, y5, hrun, y7, f7, hnext, T5, T6, T7, T8⟩
            refine ⟨_, rfl, hK.out _ _ T5.out (fun hHeld => ?_)⟩
            (try simp only [Act.put, List.setIfInBounds_toArray, List.set_cons_zero, List.set_cons_succ])
            refine wpAnyH_take (i := 21) (v := ?v22) rfl (by kernel_rfl) (by kernel_rfl) (by kernel_rfl) (fun _ _ _ h => h) (Or.inl ⟨by rfl, ?hy22⟩) hHeld ?rest22
            case hy22 =>
              intro w hSw
              (try dsimp only at hSw)
              go_simp
              first | done | with_reducible rfl
            (try simp only [Act.put, List.setIfInBounds_toArray, List.set_cons_zero, List.set_cons_succ])
            refine wpAnyH_ready (rs := [1, 22]) (by kernel_rfl) (by simp) ?_
            refine AllReadyH.cons rfl (fun K hK => ?_) (AllReadyH.cons rfl (fun K hK => ?_) AllReadyH.nil)
            · go_simp
              refine hK.out _ _ T5.out (fun hHeld => ?_)
              (try simp only [Act.put, List.setIfInBounds_toArray, List.set_cons_zero, List.set_cons_succ])
              refine wpAnyH_ready (rs := [22]) (by kernel_rfl) (by simp) ?_
              refine AllReadyH.cons rfl (fun K hK => ?_) AllReadyH.nil
              go_simp
              refine hK.out _ _ T6.out (fun hHeld => ?_)
              (try simp only [Act.put, List.setIfInBounds_toArray, List.set_cons_zero, List.set_cons_succ])
              refine wpAnyH_ready (rs := [23]) (by kernel_rfl) (by simp) ?_
              refine AllReadyH.cons rfl (fun K hK => ?_) AllReadyH.nil
              refine step_ap rfl (.tmp 35) (.tmp 56) 32 rfl rfl v (.slice (some ⟨w5.heap.size, 0, none⟩) 1 1) _ rfl rfl hrun.out ?_
              refine hK.out _ _ T7.out (fun hHeld => ?_)
              (try simp only [Act.put, List.setIfInBounds_toArray, List.set_cons_zero, List.set_cons_succ])
              refine wpAnyH_take (i := 24) (v := ?v202) rfl (by kernel_rfl) (by kernel_rfl) (by kernel_rfl) (fun _ _ _ h => h) (Or.inl ⟨by rfl, ?hy202⟩) hHeld ?rest202
              case hy202 =>
                intro w hSw
                (try dsimp only at hSw)
                go_simp
                first | done | with_reducible rfl
              (try simp only [Act.put, List.setIfInBounds_toArray, List.set_cons_zero, List.set_cons_succ])
              refine wpAnyH_ready (rs := [25]) (by kernel_rfl) (by simp) ?_
              refine AllReadyH.cons rfl (fun K hK => ?_) AllReadyH.nil
              go_simp
              refine hK.out _ _ T8.out (fun hHeld => ?_)
              (try simp only [Act.put, List.setIfInBounds_toArray, List.set_cons_zero, List.set_cons_succ])
              refine wpAnyH_done (by kernel_rfl) ?_ _
              go_wp2_with fail
              go_roundw
              case rel => exact ⟨t + 1, by omega, by go_num, hnext.out⟩
              case measure => simp [intOf]; omega
            · go_simp
              refine hK.out _ _ T6.out (fun hHeld => ?_)
              (try simp only [Act.put, List.setIfInBounds_toArray, List.set_cons_zero, List.set_cons_succ])
              refine wpAnyH_ready (rs := [1]) (by kernel_rfl) (by simp) ?_
              refine AllReadyH.cons rfl (fun K hK => ?_) AllReadyH.nil
              go_simp
              refine hK.out _ _ T6.out (fun hHeld => ?_)
              (try simp only [Act.put, List.setIfInBounds_toArray, List.set_cons_zero, List.set_cons_succ])
              refine wpAnyH_ready (rs := [23]) (by kernel_rfl) (by simp) ?_
              refine AllReadyH.cons rfl (fun K hK => ?_) AllReadyH.nil
              refine step_ap rfl (.tmp 35) (.tmp 56) 32 rfl rfl v (.slice (some ⟨w5.heap.size, 0, none⟩) 1 1) _ rfl rfl hrun.out ?_
              refine hK.out _ _ T7.out (fun hHeld => ?_)
              (try simp only [Act.put, List.setIfInBounds_toArray, List.set_cons_zero, List.set_cons_succ])
              refine wpAnyH_take (i := 24) (v := ?v203) rfl (by kernel_rfl) (by kernel_rfl) (by kernel_rfl) (fun _ _ _ h => h) (Or.inl ⟨by rfl, ?hy203⟩) hHeld ?rest203
              case hy203 =>
                intro w hSw
                (try dsimp only at hSw)
                go_simp
                first | done | with_reducible rfl
              (try simp only [Act.put, List.setIfInBounds_toArray, List.set_cons_zero, List.set_cons_succ])
              refine wpAnyH_ready (rs := [25]) (by kernel_rfl) (by simp) ?_
              refine AllReadyH.cons rfl (fun K hK => ?_) AllReadyH.nil
              go_simp
              refine hK.out _ _ T8.out (fun hHeld => ?_)
              (try simp only [Act.put, List.setIfInBounds_toArray, List.set_cons_zero, List.set_cons_succ])
              refine wpAnyH_done (by kernel_rfl) ?_ _
              go_wp2_with fail
              go_roundw
              case rel => exact ⟨t + 1, by omega, by go_num, hnext.out⟩
              case measure => simp [intOf]; omega
        · obtain rfl : t = m := by omega
          have hK' : K.map KV.flat = ks.map KV.flat := by rw [hK, ← hl.out, List.take_length]
          have hKl : K.length = t := by have := congrArg List.length hK'; simp at this; rw [this]; exact hl.out
          obtain ⟨a5, c5, rfl, hc5⟩ := owns_form hKo.row
          rw [hKl] at hKo hcb
          have k0 := hcb.cell0
          have k1 := hcb.cell1
          have k2 := hcb.cell2
          have bl6 := below_lit wr (.cells #[.int .i64 id, .int .i64 fl, .slice a5 t c5] 34)
          have B6 := bnext hBi bl6
          have hP6 := owns_below hP.out.row B6
          rw [hQl.out] at hP6
          have hbase : w.heap.size ≤ (wr.alloc (.cells #[.int .i64 id, .int .i64 fl, .slice a5 t c5] 34)).heap.size := Nat.le_trans hB.size B6.size
          have hcl := cat_lit wr 34 [.int .i64 id, .int .i64 fl, .slice a5 t c5] _ rfl
          have ho6 : KOwn 36 _ wa.heap.size _ _ := (hKo.below bl6).low (Nat.le_succ _)
          replace ho6 := hid ho6
          replace hKo := hid hKo
          replace hP6 := hid hP6
          replace hbase := hid hbase
          replace hcl := hid hcl
          replace hK := hid hK
          replace hK' := hid hK'
          replace hKl := hid hKl
          replace hcb := hid hcb
          go_wp2_with (at_builtin; refine wpList_cat _ rfl (.tmp 59) (.tmp 61) 22 rfl w.heap.size 34 i0 _ 3 40 Try.underlying22 hi0 hz0 hz1 hz2 rfl (by omega) u3 j (Q.flatMap CV.cells) rfl hP6.out (some ⟨wr.heap.size, 0, none⟩) 1 1 [.int .i64 id, .int .i64 fl, .slice a5 t c5] rfl rfl hcl.out (by simp [Value.oneCell']) (by unfold maxLen; omega) (by omega) hbase.out ?_; intro v7 w7 hr7 hg7 hv7)
          go_roundw
          case rel =>
            refine ⟨j + 1, by omega, by go_num, Q ++ [⟨id, fl, a5, c5, K⟩], cflat_snoc hjL _ hQ.out (by rw [hq.out]; unfold CV.flat; rw [hK'.out]), ?_, ?_⟩
            · have hl2 := hKl.out
              have hq2 := hQl.out
              subst hl2
              rw [← hq2] at hr7
              exact hP.out.more (q := ⟨id, fl, a5, c5, K⟩) B6 ho6.out hB.size hr7 hg7
            · refine (hB.trans (B6.mono hB.size)).trans ?_
              refine (Kp.grown hg7).below (fun k hk => ?_) hbase.out
              exact (World.ownsRow.lt hP.out.row k hk).1
          case measure => simp [intOf]; omega
    · obtain rfl : j = n := by omega
      replace hQ := hid hQ
      replace hP := hid hP
      go_wp2
      go_ret
      refine ⟨u3, Q, rfl, ?_, hP.out, hB⟩
      have := hQ.out
      rw [← hL.out, List.take_length] at this
      exact this

end Go.Proofs.Ythjggjjocfbjcaa
