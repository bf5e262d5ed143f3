/- NetSent. -/
import Derived.Test.YtgjjgfppolmkoaaSentBase
import Derived.Test.YtgjjgfppolmkoaaArg
namespace Go.Proofs.Ytgjjgfppolmkoaa
open Go.RowKit Go.Maps

theorem info3 : (Try.prog.info? 3).map (fun i => (i.zero, i.size, i.bytes)) = some (some (.int .i64 0), 1, 8) := by kernel_rfl

/-- Behind j rounds: d were delivered, t were lost. -/
def SJ (base p m gs go ga : Nat) (w1 wr : World) (cv : Value) (j last : Nat) (d t : Int) : Prop :=
  ∃ L sent O C, SI base p m gs go ga wr L last sent O C cv ∧ last ≤ j ∧ sent ≤ j ∧ d + (L.length : Int) = C.sum ∧ (last : Int) = C.sum + t ∧ (∀ x ∈ C, -(j : Int) ≤ x ∧ x ≤ (j : Int) + 1) ∧ 0 ≤ d ∧ d ≤ j ∧ 0 ≤ t ∧ t ≤ j ∧ Kp (AllB base p m gs ga) w1 wr

/-- Behind i2 of the last deliveries. -/
def S2 (base p m gs go ga : Nat) (w5 wr : World) (L : List Pk) (i2 last sent : Nat) (O C : List Int) (cv : Value) : Prop := SI base p m gs go ga wr (L.drop i2) last sent O C cv ∧ Kp (Turn p m) w5 wr

theorem one_lit (w : World) (t : TypeId) (v : Value) : One (w.alloc (.cells #[v] t)) w.heap.size t v := heap_alloc_new w _

theorem orow_made {w : World} {base g n : Nat} (h : w.ownsRow base 3 1 (.slice (some ⟨g, 0, none⟩) n n) n (madeCells (Value.cells (.int .i64 0)) (n * 1)).toList) : ORow w g (List.replicate n 0) := by
  obtain ⟨h1, h2⟩ := h
  rcases h2 with ⟨h3, _⟩ | ⟨g', cap, cur, hv, _, hh, _, _, hs, ht⟩
  · cases h3
  · simp at hv
    obtain ⟨rfl, rfl⟩ := hv
    unfold ORow
    rw [hh]
    have e : cur.toList = List.replicate n (Value.int .i64 0) := by
      rw [List.take_of_length_le (by simp; omega)] at ht
      rw [ht]
      simp only [madeCells, Value.cells, Array.toList_map, Array.toList_range, Nat.mul_one]
      apply List.ext_getElem
      · simp
      · intro i h1 h2
        simp [Nat.mod_one]
    congr 2
    apply Array.toList_inj.1
    rw [e]
    simp [I]

set_option maxRecDepth 100000 in
/-- What the loop begins with. -/
theorem si_start {w1 w2 : World} {p m : Nat} (h1 : NAt w1 p m [] 0) (hb : Below (w1.alloc (.cells #[.int .i64 0] 3)).heap.size (w1.alloc (.cells #[.int .i64 0] 3)) w2) {ga : Nat} (hga : ga = w1.heap.size + 1) (ho : ORow w2 ga (List.replicate 400 0)) :
    SI (w2.alloc (.cells #[.slice (some ⟨ga, 0, none⟩) 400 400] 59)).heap.size p m w1.heap.size w2.heap.size ga (w2.alloc (.cells #[.slice (some ⟨ga, 0, none⟩) 400 400] 59)) [] 0 0 (List.replicate 400 0) [] (.slice none 0 0) := by
  have b0 := below_lit w1 (.cells #[.int .i64 0] 3)
  have b3 := below_lit w2 (.cells #[.slice (some ⟨ga, 0, none⟩) 400 400] 59)
  have hp := h1.lt
  have hm := h1.own.lt
  have hz := hb.size
  have e1 : (w1.alloc (.cells #[.int .i64 0] 3)).heap.size = w1.heap.size + 1 := World.size_alloc _ _
  have e2 : (w2.alloc (.cells #[.slice (some ⟨ga, 0, none⟩) 400 400] 59)).heap.size = w2.heap.size + 1 := World.size_alloc _ _
  have hol := ho.lt
  exact ⟨((h1.below b0).below hb).below b3, ((one_lit w1 3 (.int .i64 0)).kp (S := fun _ => False) (Kp.of_below hb) (fun h => h)).kp (S := fun _ => False) (Kp.of_below b3) (fun h => h), one_lit w2 59 _, ho.kp (S := fun _ => False) (Kp.of_below b3) (fun h => h), List.length_replicate, World.ownsRow_nil _ _ _ _, rfl, by simp, by simp, by simp, by omega, Nat.le_refl _⟩

set_option maxRecDepth 100000 in
set_option maxHeartbeats 8000000 in
theorem sent_any (a : Option Addr) (len cap : Nat) (w : World) (hw : IAt w a len) (hlen : len ≤ 140737488355328) : Calls Try.prog 6 #[.slice a len cap] w fun e w' => e = .returned (.bool true) ∧ Below w.heap.size w w' := by
  obtain ⟨i0, hi0, hz0, hzs1, hz2⟩ := info_parts info3
  go_enter Try.func6, Try.ntmps6
  go_wp2_with fail
  refine (new_any _).mono ?_
  rintro e w1 ⟨p, m, rfl, hp, hm, h1, b1⟩
  go_wp2_with (at_make; refine wpList_make_full _ rfl (.const (.int .i64 400)) (.const (.int .i64 400)) 59 rfl w.heap.size 3 i0 (.int .i64 0) 1 Try.underlying59 hi0 hz0 hzs1 .i64 .i64 400 400 400 rfl rfl (by omega) (by omega) (by rw [hz2]; omega) (by unfold maxLen; omega) (by have := b1.size; simp; omega) ?_; intro w2 hgs hgr)
  have e1 : (w1.alloc (.cells #[.int .i64 0] 3)).heap.size = w1.heap.size + 1 := World.size_alloc _ _
  have hb2 : Below (w1.alloc (.cells #[.int .i64 0] 3)).heap.size (w1.alloc (.cells #[.int .i64 0] 3)) w2 := (Below.refl _ _).grown hgr (Nat.le_refl _) (fun k hk => by cases hk)
  have ho := orow_made hgs
  rw [e1] at ho
  have hSI := si_start h1 hb2 rfl ho
  have B3 := bnext (bnext b1 (bnext (below_lit w1 _) hb2)) (below_lit w2 (.cells #[.slice (some ⟨w1.heap.size + 1, 0, none⟩) 400 400] 59))
  obtain ⟨gs, hgs0⟩ : ∃ g, g = w1.heap.size := ⟨_, rfl⟩
  obtain ⟨ga, hga0⟩ : ∃ g, g = w1.heap.size + 1 := ⟨_, rfl⟩
  obtain ⟨go, hgo0⟩ : ∃ g, g = w2.heap.size := ⟨_, rfl⟩
  rw [← hga0, ← hgs0, ← hgo0] at hSI
  rw [← hga0] at B3
  rw [← hga0, ← hgs0, ← hgo0]
  obtain ⟨w3, hw3⟩ : ∃ w3, w3 = w2.alloc (.cells #[.slice (some ⟨ga, 0, none⟩) 400 400] 59) := ⟨_, rfl⟩
  rw [← hw3] at hSI B3 ⊢
  obtain ⟨base, hbase⟩ : ∃ b, b = w3.heap.size := ⟨_, rfl⟩
  rw [← hbase] at hSI
  have hwb : w.heap.size ≤ p ∧ w.heap.size ≤ m ∧ w.heap.size ≤ gs ∧ w.heap.size ≤ ga ∧ w.heap.size ≤ base := by
    have := b1.size
    have := B3.size
    omega
  clear e1 hb2 ho hgs hgr h1
  replace hgs0 := hid hgs0
  replace hga0 := hid hga0
  replace hgo0 := hid hgo0
  replace hw3 := hid hw3
  replace hbase := hid hbase
  replace hSI := hid hSI
  go_loopw [5, 6, 8, 10, 11] (fun v5 cv v8 v10 i wr => ∃ (j last : Nat) (d t : Int), j ≤ len ∧ j ≤ 100 ∧ v5 = .int .i64 t ∧ v8 = .int .i64 (last : Int) ∧ v10 = .int .i64 d ∧ i = .int .i64 j ∧ SJ base p m gs go ga w3 wr cv j last d t) (fun _ _ _ _ i _ => 100 - (intOf i).toNat)
  case atStart => exact ⟨0, 0, 0, 0, Nat.zero_le _, Nat.zero_le _, rfl, rfl, rfl, rfl, [], 0, List.replicate 400 0, [], hSI.out, Nat.le_refl _, Nat.le_refl _, rfl, rfl, by simp, Int.le_refl _, Int.le_refl _, Int.le_refl _, Int.le_refl _, Kp.refl _ _⟩
  case round =>
    obtain ⟨j, last, d, t, hjl, hj, rfl, rfl, rfl, rfl, L, sent, O, C, hS, hlj, hsj, hsum, hlst, hC, hd0, hdj, ht0, htj, hK⟩ := hrel
    have hBr : Below w.heap.size w wr := B3.trans (hK.below (fun k e => by rcases e with e | e | e | e | e <;> omega) B3.size)
    by_cases hlt : j < len ∧ j < 100
    · obtain ⟨ab, ao, rfl, hac⟩ := hw (by omega)
      obtain ⟨z, hz⟩ := hac j hlt.1
      have hz1 : wr.cell? ⟨ab, ao + j, none⟩ = some (.int .i64 z) := by rw [hBr.cell (p := ⟨ab, ao + j, none⟩) (World.block_lt_of_cell? w _ hz)]; exact hz
      have hlt1 : j < len := hlt.1
      have hlt2 : j < 100 := hlt.2
      have hLl := hS.net.few
      clear hlt
      replace hsum := hid hsum
      replace hlst := hid hlst
      replace hC := hid hC
      go_wp2_with fail
      refine (pick_any z 1000003 _ (by omega) (by omega)).mono ?_
      rintro e w4 ⟨⟨pw, hpw, rfl⟩, rfl⟩
      go_wp2_with fail
      refine (list_any _ hS.net (by omega) (by omega)).mono ?_
      rintro e w5 ⟨v5, Q5, rfl, hQ5, hP5, b5⟩
      obtain ⟨n, hn⟩ : ∃ n, n = L.length := ⟨_, rfl⟩
      have hQl : Q5.length = n := by have := congrArg List.length hQ5; rw [List.length_map, List.length_map] at this; omega
      have hrow := hP5.row
      rw [hQl] at hrow
      obtain ⟨la, lc, rfl, _⟩ := owns_form hrow
      have hS5 := hS.below b5
      have hS5d := hS5.below (drew_below w5)
      rw [← hn] at hLl
      replace hn := hid hn
      replace hQl := hid hQl
      replace hQ5 := hid hQ5
      replace hP5 := hid hP5
      replace hrow := hid hrow
      by_cases hn0 : n = 0
      · have x1 : ((n : Int) == 0) = true := by simp; omega
        have hws : IntKind.i64.wrap ((sent : Int) + 1) = (sent : Int) + 1 := by rw [IntKind.wrap_i64]; omega
        have c5d := hS5d.cs.cell
        have ord := hS.ord
        go_wp2_with fail
        go_region_held (fun w' : World => w'.cell? ⟨gs, 0, none⟩ = some (.int .i64 (sent : Int))) (first | exact c7 | exact c6 | exact c5d)
          (first
            | (go_at_call 26; refine (body_any sent _ (by omega)).mono ?_; rintro e w6 ⟨ba, bc, rfl, ho6, hb6⟩; have hS6 := hS5d.below hb6; have c6 := hS6.cs.cell)
            | (go_at_call 10; refine (send_i (sent : Int) ((sent : Int) + 1) ba bc (bodyL sent).length (bodyL sent) _ hS6.net rfl (by rw [bodyL_len]; omega) (by omega) (by rw [← hn.out]; omega) (own_at ho6)).mono ?_; rintro e w7 ⟨q7, rfl, n7, f7, t7, d7, o7, h7, k7⟩; have cs7 := hS6.cs.kp k7 (fun e => by rcases e with e | e <;> omega); have c7 := cs7.cell))
        have hT : ∀ k, gs ≤ k → ¬ Turn p m k := fun k hk e => by rcases e with e | e <;> omega
        have co7 := hS6.co.kp k7 (hT _ (by omega))
        have ow7 := hS6.ow.kp k7 (hT _ (by omega))
        have hOl := hS6.Ol
        have kgs := Kp.setCell (S := fun k => k = gs) (p := ⟨gs, 0, none⟩) (Kp.refl _ w7) rfl (.int .i64 ((sent : Int) + 1))
        have cf7 := cs7.free
        have cs8 := cs7.set (.int .i64 ((sent : Int) + 1))
        have c8 := cs8.cell
        have co8 := (co7.kp kgs (by omega)).cell
        have ow8 := ow7.kp kgs (by omega)
        have kga := Kp.setCell (S := fun k => k = ga) (p := ⟨ga, last + 1, none⟩) (Kp.refl _ (w7.setCell ⟨gs, 0, none⟩ (.int .i64 ((sent : Int) + 1)))) rfl (.int .i64 ((sent : Int) + 1))
        have oc8 := ow8.cell (last + 1) (by omega)
        have of8 := ow8.free (last + 1)
        have bl9 := below_lit ((w7.setCell ⟨gs, 0, none⟩ (.int .i64 ((sent : Int) + 1))).setCell ⟨ga, last + 1, none⟩ (.int .i64 ((sent : Int) + 1))) (.cells #[.int .i64 1] 3)
        have cl := hS6.cr.lt
        have cr9 := owns_below ((((hS6.cr.kp k7 (fun k e => hT _ (by have := (cl k e).1; omega))).kp kgs (fun k e e2 => by have := (cl k e).1; omega)).kp kga (fun k e e2 => by have := (cl k e).1; omega))) bl9
        rw [hS6.Cl] at cr9
        have hbs9 : base ≤ (((w7.setCell ⟨gs, 0, none⟩ (.int .i64 ((sent : Int) + 1))).setCell ⟨ga, last + 1, none⟩ (.int .i64 ((sent : Int) + 1))).alloc (.cells #[.int .i64 1] 3)).heap.size := Nat.le_trans hS6.bas (Nat.le_trans k7.size (Nat.le_trans kgs.size (Nat.le_trans kga.size bl9.size)))
        have hsz9 : ((w7.setCell ⟨gs, 0, none⟩ (.int .i64 ((sent : Int) + 1))).setCell ⟨ga, last + 1, none⟩ (.int .i64 ((sent : Int) + 1))).heap.size = w7.heap.size := by simp [World.setCell]
        have hcl9 := cat_here ((w7.setCell ⟨gs, 0, none⟩ (.int .i64 ((sent : Int) + 1))).setCell ⟨ga, last + 1, none⟩ (.int .i64 ((sent : Int) + 1))) 3 [.int .i64 1] _ rfl w7.heap.size hsz9
        replace hsz9 := hid hsz9
        have hb400 : (last : Int) + 1 < 400 := by omega
        replace cr9 := hid cr9
        replace hbs9 := hid hbs9
        replace hcl9 := hid hcl9
        replace bl9 := hid bl9
        replace n7 := hid n7
        replace f7 := hid f7
        replace t7 := hid t7
        replace d7 := hid d7
        replace h7 := hid h7
        replace hOl := hid hOl
        clear cs8 kgs kga
        go_wp2_with (at_builtin; refine wpList_cat _ rfl (.tmp 76) (.tmp 77) 59 rfl base 3 i0 _ 1 8 Try.underlying59 hi0 hz0 hzs1 hz2 rfl (by omega) u6 sent (C.map I) rfl cr9.out (some ⟨w7.heap.size, 0, none⟩) 1 1 [.int .i64 1] rfl rfl hcl9.out (by simp [Value.oneCell']) (by unfold maxLen; omega) (by omega) hbs9.out ?_; intro v9 w9 hr9 hg9 hv9)
        go_roundw
        case rel =>
          refine ⟨j + 1, last + 1, d, t, by omega, by omega, rfl, by go_num, rfl, by go_num, L ++ [q7], sent + 1, _, C ++ [1], hS6.sending k7 h7.out n7.out f7.out t7.out d7.out o7 (by omega) bl9.out hr9 hg9 hv9, by omega, by omega, ?_, ?_, ?_, hd0, by omega, ht0, by omega, ?_⟩
          · have := hsum.out; simp; omega
          · have := hlst.out; simp; omega
          · intro x hx
            rcases List.mem_append.1 hx with hx | hx
            · have := hC.out x hx; omega
            · simp at hx; omega
          · exact (((hK.then b5).then (drew_below w5)).then hb6).trans ((all_turn k7).trans (all_sending bl9.out hg9 (fun k e => (cl k e).1)))
        case measure => simp [intOf]; omega

      · have x1 : ((n : Int) == 0) = false := by simp; omega
        by_cases hp2 : pw % 5 < 2
        · have x2 : decide ((pw : Int) % 5 < 2) = true := decide_eq_true (by omega)
          have hws : IntKind.i64.wrap ((sent : Int) + 1) = (sent : Int) + 1 := by rw [IntKind.wrap_i64]; omega
          have c5d := hS5d.cs.cell
          have ord := hS.ord
          go_wp2_with fail
          go_region_held (fun w' : World => w'.cell? ⟨gs, 0, none⟩ = some (.int .i64 (sent : Int))) (first | exact c7 | exact c6 | exact c5d)
            (first
              | (go_at_call 26; refine (body_any sent _ (by omega)).mono ?_; rintro e w6 ⟨ba, bc, rfl, ho6, hb6⟩; have hS6 := hS5d.below hb6; have c6 := hS6.cs.cell)
              | (go_at_call 10; refine (send_i (sent : Int) ((sent : Int) + 1) ba bc (bodyL sent).length (bodyL sent) _ hS6.net rfl (by rw [bodyL_len]; omega) (by omega) (by rw [← hn.out]; omega) (own_at ho6)).mono ?_; rintro e w7 ⟨q7, rfl, n7, f7, t7, d7, o7, h7, k7⟩; have cs7 := hS6.cs.kp k7 (fun e => by rcases e with e | e <;> omega); have c7 := cs7.cell))
          have hT : ∀ k, gs ≤ k → ¬ Turn p m k := fun k hk e => by rcases e with e | e <;> omega
          have co7 := hS6.co.kp k7 (hT _ (by omega))
          have ow7 := hS6.ow.kp k7 (hT _ (by omega))
          have hOl := hS6.Ol
          have kgs := Kp.setCell (S := fun k => k = gs) (p := ⟨gs, 0, none⟩) (Kp.refl _ w7) rfl (.int .i64 ((sent : Int) + 1))
          have cf7 := cs7.free
          have cs8 := cs7.set (.int .i64 ((sent : Int) + 1))
          have c8 := cs8.cell
          have co8 := (co7.kp kgs (by omega)).cell
          have ow8 := ow7.kp kgs (by omega)
          have kga := Kp.setCell (S := fun k => k = ga) (p := ⟨ga, last + 1, none⟩) (Kp.refl _ (w7.setCell ⟨gs, 0, none⟩ (.int .i64 ((sent : Int) + 1)))) rfl (.int .i64 ((sent : Int) + 1))
          have oc8 := ow8.cell (last + 1) (by omega)
          have of8 := ow8.free (last + 1)
          have bl9 := below_lit ((w7.setCell ⟨gs, 0, none⟩ (.int .i64 ((sent : Int) + 1))).setCell ⟨ga, last + 1, none⟩ (.int .i64 ((sent : Int) + 1))) (.cells #[.int .i64 1] 3)
          have cl := hS6.cr.lt
          have cr9 := owns_below ((((hS6.cr.kp k7 (fun k e => hT _ (by have := (cl k e).1; omega))).kp kgs (fun k e e2 => by have := (cl k e).1; omega)).kp kga (fun k e e2 => by have := (cl k e).1; omega))) bl9
          rw [hS6.Cl] at cr9
          have hbs9 : base ≤ (((w7.setCell ⟨gs, 0, none⟩ (.int .i64 ((sent : Int) + 1))).setCell ⟨ga, last + 1, none⟩ (.int .i64 ((sent : Int) + 1))).alloc (.cells #[.int .i64 1] 3)).heap.size := Nat.le_trans hS6.bas (Nat.le_trans k7.size (Nat.le_trans kgs.size (Nat.le_trans kga.size bl9.size)))
          have hsz9 : ((w7.setCell ⟨gs, 0, none⟩ (.int .i64 ((sent : Int) + 1))).setCell ⟨ga, last + 1, none⟩ (.int .i64 ((sent : Int) + 1))).heap.size = w7.heap.size := by simp [World.setCell]
          have hcl9 := cat_here ((w7.setCell ⟨gs, 0, none⟩ (.int .i64 ((sent : Int) + 1))).setCell ⟨ga, last + 1, none⟩ (.int .i64 ((sent : Int) + 1))) 3 [.int .i64 1] _ rfl w7.heap.size hsz9
          replace hsz9 := hid hsz9
          have hb400 : (last : Int) + 1 < 400 := by omega
          replace cr9 := hid cr9
          replace hbs9 := hid hbs9
          replace hcl9 := hid hcl9
          replace bl9 := hid bl9
          replace n7 := hid n7
          replace f7 := hid f7
          replace t7 := hid t7
          replace d7 := hid d7
          replace h7 := hid h7
          replace hOl := hid hOl
          clear cs8 kgs kga
          go_wp2_with (at_builtin; refine wpList_cat _ rfl (.tmp 76) (.tmp 77) 59 rfl base 3 i0 _ 1 8 Try.underlying59 hi0 hz0 hzs1 hz2 rfl (by omega) u6 sent (C.map I) rfl cr9.out (some ⟨w7.heap.size, 0, none⟩) 1 1 [.int .i64 1] rfl rfl hcl9.out (by simp [Value.oneCell']) (by unfold maxLen; omega) (by omega) hbs9.out ?_; intro v9 w9 hr9 hg9 hv9)
          go_roundw
          case rel =>
            refine ⟨j + 1, last + 1, d, t, by omega, by omega, rfl, by go_num, rfl, by go_num, L ++ [q7], sent + 1, _, C ++ [1], hS6.sending k7 h7.out n7.out f7.out t7.out d7.out o7 (by omega) bl9.out hr9 hg9 hv9, by omega, by omega, ?_, ?_, ?_, hd0, by omega, ht0, by omega, ?_⟩
            · have := hsum.out; simp; omega
            · have := hlst.out; simp; omega
            · intro x hx
              rcases List.mem_append.1 hx with hx | hx
              · have := hC.out x hx; omega
              · simp at hx; omega
            · exact (((hK.then b5).then (drew_below w5)).then hb6).trans ((all_turn k7).trans (all_sending bl9.out hg9 (fun k e => (cl k e).1)))
          case measure => simp [intOf]; omega

        · have x2 : decide ((pw : Int) % 5 < 2) = false := decide_eq_false (by omega)
          obtain ⟨lb, lo, hla, _⟩ := owns_cat hrow.out (by intro e; have := cells_len Q5; rw [e, hQl.out] at this; simp at this; omega)
          subst hla
          obtain ⟨ix, hix⟩ : ∃ ix, ix = pw / 5 % n := ⟨_, rfl⟩
          have hixn : ix < n := by rw [hix]; exact Nat.mod_lt _ (by omega)
          have hixi : (pw : Int) / 5 % (n : Int) = (ix : Int) := by rw [hix]; simp
          have hixQ : ix < Q5.length := by rw [hQl.out]; exact hixn
          have hixL : ix < L.length := by rw [← hn.out]; exact hixn
          obtain ⟨r0, r1, r2, r3⟩ := hP5.out.packet ix hixQ
          have hfl : Q5[ix].flat = L[ix].flat := by
            have := congrArg (fun l => l[ix]?) hQ5.out
            simpa [hixQ, hixL] using this
          have hmem : L[ix] ∈ L := List.getElem_mem hixL
          have hnum : Q5[ix].num = L[ix].num := congrArg (fun x => x.1) hfl
          obtain ⟨q, hq⟩ : ∃ q, q = L[ix] := ⟨_, rfl⟩
          rw [hnum, ← hq] at r0
          rw [← hq] at hmem
          generalize Q5[ix].fr = pf at r1
          generalize Q5[ix].to = pt at r2
          generalize Q5[ix].a = pa at r3
          generalize Q5[ix].body.length = pl at r3
          generalize Q5[ix].c = pc at r3
          obtain ⟨k, hk, hO, hfr, hto, hbody⟩ := hS.pk q hmem
          have hfind := find_of_mem hS.net.rise hmem
          have hqn := hS.net.nums q hmem
          obtain ⟨nn, hnn⟩ : ∃ nn : Nat, q.num = (nn : Int) := ⟨q.num.toNat, by omega⟩
          rw [hnn] at r0 hfind hqn hO
          rw [Int.toNat_natCast] at hO
          have hnn1 : nn ≤ 100 := by omega
          have ord := hS.ord
          clear hnum hfl
          replace hix := hid hix
          replace hq := hid hq
          replace hnn := hid hnn
          replace hfind := hid hfind
          replace hO := hid hO
          replace hfr := hid hfr
          replace hto := hid hto
          replace hbody := hid hbody
          have bl5 := below_lit w5 (.cells #[.int .i64 (nn : Int), .int .i64 pf, .int .i64 pt, .slice pa pl pc] 31)
          have hS6 := hS5.below bl5
          have P6 := PBlk.new w5 (.int .i64 (nn : Int)) (.int .i64 pf) (.int .i64 pt) (.slice pa pl pc)
          have K6 := (hK.then b5).then bl5
          have hwf : (Lit.int .i64 (nn : Int)).wf = true := wf_i (by omega) (by omega)
          have hd5 : (5 : Int) ≠ 0 := by omega
          have hnz : (n : Int) ≠ 0 := by omega
          replace hwf := hid hwf
          replace P6 := hid P6
          have hin : (nn : Int) ∈ nums L := by rw [← hnn.out]; exact List.mem_map.2 ⟨q, hmem, rfl⟩
          have hdl := del_len_in hS.net.rise hin
          have hOl := hS.Ol
          have hOn : O[nn]'(by omega) = (k : Int) + 1 := by
            have := hO.out
            rw [List.getD_eq_getElem?_getD, List.getElem?_eq_getElem (by omega)] at this
            simpa using this
          replace hdl := hid hdl
          replace hin := hid hin
          replace hOn := hid hOn
          replace hOl := hid hOl

          by_cases hr2 : pw % 5 = 2
          · have y1 : ((pw : Int) % 5 == 2) = true := by simp; omega
            have hdel := deliver_yes (nn : Int) q _ hS6.net hwf.out hfind.out
            rw [hfr.out, hto.out, hnn.out, hbody.out] at hdel
            go_wp2_with fail
            refine hdel.mono ?_
            rintro e w7 ⟨a7, c7, rfl, ho7, h7, k7⟩
            have hS7 := hS6.del k7 h7
            have c1 := hS7.cs.cell
            have c2 := hS7.co.cell
            have c3 := hS7.ow.cell nn (by rw [hOl.out]; omega)
            rw [hOn.out] at c3
            replace hdel := hid hdel
            replace h7 := hid h7
            go_wp2_with fail
            refine (deliver_fn (nn : Int) nn k sent gs go ga a7 _ c7 w7 hk (by omega) rfl (by omega) (own_at ho7) rfl c1 c2 c3).mono ?_
            rintro e w8 ⟨rfl, b8⟩
            have hS8 := hS7.below b8
            have K8 := (K6.trans (all_turn k7)).then b8
            go_wp2_with fail
            go_roundw
            case rel =>
              refine ⟨j + 1, last, d + 1, t, by omega, by omega, rfl, rfl, by go_num, by go_num, delP L (nn : Int), sent, O, C, hS8, by omega, by omega, ?_, hlst.out, ?_, by omega, by omega, ht0, by omega, K8⟩
              · have := hsum.out; have := hdl.out; omega
              · intro x hx; have := hC.out x hx; omega
            case measure => simp [intOf]; omega

          · have y1 : ((pw : Int) % 5 == 2) = false := by simp; omega
            by_cases hr3 : pw % 5 = 3
            · have y2 : ((pw : Int) % 5 == 3) = true := by simp; omega
              go_wp2_with fail
              refine (drop_yes (nn : Int) q _ hS6.net hwf.out hfind.out).mono ?_
              rintro e w7 ⟨rfl, h7, k7⟩
              have hS7 := hS6.del k7 h7
              have hP7 := hS6.net.pblk P6.out (by have := hS5.net.lt; omega) k7
              have c0 := hP7.cell0
              have c2 := hS7.co.cell
              have c3 := hS7.ow.cell nn (by rw [hOl.out]; omega)
              rw [hOn.out] at c3
              replace h7 := hid h7
              have hCl := hS.Cl
              obtain ⟨cg, cc, hcv⟩ := hS.cr.form (by omega)
              rw [hCl] at hcv
              subst hcv
              have e1 := hS7.cr.cell k (by omega)
              have e2 := hS7.cr.free k
              obtain ⟨xk, hxk⟩ : ∃ x, x = C[k]'(by omega) := ⟨_, rfl⟩
              rw [← hxk] at e1
              have hxr := hC.out xk (by rw [hxk]; exact List.getElem_mem _)
              replace hxk := hid hxk
              replace hP7 := hid hP7
              have K7 := K6.trans (all_turn k7)
              have hcg := hS7.cr.lt cg rfl
              go_wp2_with fail
              go_roundw
              case rel =>
                have hxe := hxk.out
                have hss := sum_set C k (by omega) (xk - 1)
                refine ⟨j + 1, last, d, t + 1, by omega, by omega, by go_num, rfl, rfl, by go_num, delP L (nn : Int), sent, O, C.set k (xk - 1), hS7.count k (xk - 1), by omega, by omega, ?_, ?_, ?_, by omega, by omega, by omega, by omega, K7.trans (all_cell _ (.inl hcg.1))⟩
                · have := hsum.out; have := hdl.out; omega
                · have := hlst.out; omega
                · intro x hx
                  rcases List.mem_or_eq_of_mem_set hx with hx | hx
                  · have := hC.out x hx; omega
                  · omega
              case measure => simp [intOf]; omega

            · have y2 : ((pw : Int) % 5 == 3) = false := by simp; omega
              have y3 : ((pw : Int) % 5 == 4) = true := by simp; omega
              go_wp2_with fail
              refine (double_i (nn : Int) q _ hS6.net hwf.out hfind.out (by omega) (by rw [← hn.out]; omega)).mono ?_
              rintro e w7 ⟨rfl, h7, k7⟩
              have hT : ∀ k, gs ≤ k → ¬ Turn p m k := fun k hk e => by rcases e with e | e <;> omega
              have hP7 := hS6.net.pblk P6.out (by have := hS5.net.lt; omega) k7
              have c0 := hP7.cell0
              have co7 := hS6.co.kp k7 (hT _ (by omega))
              have c2 := co7.cell
              have ow7 := hS6.ow.kp k7 (hT _ (by omega))
              have c3 := ow7.cell nn (by rw [hOl.out]; omega)
              rw [hOn.out] at c3
              have c4 := ow7.cell (last + 1) (by rw [hOl.out]; omega)
              have f4 := ow7.free (last + 1)
              have hSd := hS6.doubling k7 hmem h7 hk hfr.out hto.out hbody.out (by omega)
              have hSe := hSd.below (drew_below _)
              have d2 := hSe.co.cell
              have d3 := hSe.ow.cell (last + 1) (by rw [List.length_set, hOl.out]; omega)
              rw [List.getElem_set_self] at d3
              have hCl := hS.Cl
              obtain ⟨cg, cc, hcv⟩ := hS.cr.form (by omega)
              rw [hCl] at hcv
              subst hcv
              have e1 := hSe.cr.cell k (by omega)
              have e2 := hSe.cr.free k
              obtain ⟨xk, hxk⟩ : ∃ x, x = C[k]'(by omega) := ⟨_, rfl⟩
              rw [← hxk] at e1
              have hxr := hC.out xk (by rw [hxk]; exact List.getElem_mem _)
              have hcg := hSe.cr.lt cg rfl
              have hb4 : (last : Int) + 1 < 400 := by omega
              replace hxk := hid hxk
              replace hP7 := hid hP7
              replace h7 := hid h7
              replace hSd := hid hSd
              replace hSe := hid hSe
              replace ow7 := hid ow7
              replace co7 := hid co7
              have K7 := K6.trans (all_turn k7)
              have K8 := hid ((K7.trans (all_cell (i := last + 1) (.int .i64 ((k : Int) + 1)) (.inr rfl))).then (drew_below _))
              go_wp2_with fail
              go_region
              generalize (w7.setCell ⟨ga, last + 1, none⟩ (.int .i64 ((k : Int) + 1))).drew = W8 at hSe d2 d3 e1 e2 hcg K8 ⊢
              go_wp2_with fail
              go_roundw
              case rel =>
                have hxe := hxk.out
                have hss := sum_set C k (by omega) (xk + 1)
                refine ⟨j + 1, last + 1, d, t, by omega, by omega, rfl, by go_num, rfl, by go_num, _, sent, _, C.set k (xk + 1), hSe.out.count k (xk + 1), by omega, by omega, ?_, ?_, ?_, by omega, by omega, by omega, by omega, K8.out.trans (all_cell _ (.inl hcg.1))⟩
                · have := hsum.out; have := hn.out; rw [List.length_append]; simp; omega
                · have := hlst.out; simp; omega
                · intro x hx
                  rcases List.mem_or_eq_of_mem_set hx with hx | hx
                  · have := hC.out x hx; omega
                  · omega
              case measure => simp [intOf]; omega

    · by_cases hjl2 : j < len
      · have g1 : decide ((j : Int) < (len : Int)) = true := decide_eq_true (by omega)
        have g2 : decide ((j : Int) < 100) = false := decide_eq_false (by omega)
        have hLl := hS.net.few
        replace hsum := hid hsum
        replace hlst := hid hlst
        go_wp2_with fail
        refine (list_any _ hS.net (by omega) (by omega)).mono ?_
        rintro e w5 ⟨v5, Q5, rfl, hQ5, hP5, b5⟩
        obtain ⟨n, hn⟩ : ∃ n, n = L.length := ⟨_, rfl⟩
        have hQl : Q5.length = n := by have := congrArg List.length hQ5; rw [List.length_map, List.length_map] at this; omega
        have hrow := hP5.row
        rw [hQl] at hrow
        obtain ⟨la, lc, rfl, _⟩ := owns_form hrow
        have hS5 := hS.below b5
        rw [← hn] at hLl
        replace hn := hid hn
        replace hQl := hid hQl
        replace hQ5 := hid hQ5
        replace hrow := hid hrow
        have K5 := hK.then b5
        have ord := hS.ord
        have hPl := World.ownsRow.lt hP5.row
        have hpl := hS.net.lt
        have hml := hS.net.own.lt
        obtain ⟨s0, hs0⟩ : ∃ s0, s0 = wr.heap.size := ⟨_, rfl⟩
        rw [← hs0] at hPl hpl hml
        have hCl := hS.Cl
        obtain ⟨ca, cc, hcv, _⟩ := owns_form hS.cr
        rw [hCl] at hcv
        subst hcv
        have hlen4 := hS.Ol
        replace hs0 := hid hs0
        replace hCl := hid hCl
        go_wp2_with fail
        go_loopw [10, 20] (fun v10 i wr => ∃ i2 : Nat, i2 ≤ n ∧ i = .int .i64 (i2 : Int) ∧ v10 = .int .i64 (d + (i2 : Int)) ∧ S2 base p m gs go ga w5 wr L i2 last sent O C (.slice ca sent cc)) (fun _ i _ => n - (intOf i).toNat)
        case atStart => exact ⟨0, Nat.zero_le _, rfl, by simp, hS5, Kp.refl _ _⟩
        case round =>
          obtain ⟨i2, hi2, rfl, rfl, hR, hRk⟩ := hrel
          by_cases hlt2 : i2 < n
          · obtain ⟨lb, lo, hla, _⟩ := owns_cat hrow.out (by intro e; have := cells_len Q5; rw [e, hQl.out] at this; simp at this; omega)
            subst hla
            have hixQ : i2 < Q5.length := by rw [hQl.out]; exact hlt2
            have hixL : i2 < L.length := by rw [← hn.out]; exact hlt2
            have hlb := (hPl lb rfl).1
            have hfl : Q5[i2].flat = L[i2].flat := by
              have := congrArg (fun l => l[i2]?) hQ5.out
              simpa [hixQ, hixL] using this
            have r0 := kp_cell hRk (hP5.packet i2 hixQ).1 (fun e => by rcases e with e | e <;> (simp at e; omega))
            have hnum : Q5[i2].num = L[i2].num := congrArg (fun x => x.1) hfl
            have hdrop : L.drop i2 = L[i2] :: L.drop (i2 + 1) := List.drop_eq_getElem_cons hixL
            obtain ⟨q, hq⟩ : ∃ q, q = L[i2] := ⟨_, rfl⟩
            rw [hnum, ← hq] at r0
            rw [← hq] at hdrop
            have hmem : q ∈ L.drop i2 := by rw [hdrop]; simp
            obtain ⟨k, hk, hO, hfr, hto, hbody⟩ := hR.pk q hmem
            have hfind := find_of_mem hR.net.rise hmem
            have hqn := hR.net.nums q hmem
            have hdel0 := del_head q (L.drop (i2 + 1)) (by rw [← hdrop]; exact hR.net.rise)
            obtain ⟨nn, hnn⟩ : ∃ nn : Nat, q.num = (nn : Int) := ⟨q.num.toNat, by omega⟩
            rw [hnn] at r0 hfind hqn hO hdel0
            rw [Int.toNat_natCast] at hO
            have hnn1 : nn ≤ 100 := by omega
            have hOn : O[nn]'(by omega) = (k : Int) + 1 := by
              rw [List.getD_eq_getElem?_getD, List.getElem?_eq_getElem (by omega)] at hO
              simpa using hO
            have hdel := deliver_yes (nn : Int) q _ hR.net (wf_i (by omega) (by omega)) hfind
            rw [hfr, hto, hnn, hbody] at hdel
            replace hdel := hid hdel
            replace hq := hid hq
            replace hnn := hid hnn
            replace hdrop := hid hdrop
            replace hdel0 := hid hdel0
            replace hfind := hid hfind
            replace hO := hid hO
            replace hOn := hid hOn
            replace hfr := hid hfr
            replace hto := hid hto
            replace hbody := hid hbody
            replace hlen4 := hid hlen4
            clear hfl hnum
            go_wp2_with fail
            refine hdel.out.mono ?_
            rintro e w7 ⟨a7, c7, rfl, ho7, h7, k7⟩
            have hR7 := hR.del k7 h7
            rw [hdrop.out, hdel0.out] at hR7
            have c1 := hR7.cs.cell
            have c2 := hR7.co.cell
            have c3 := hR7.ow.cell nn (by rw [hlen4.out]; omega)
            rw [hOn.out] at c3
            replace h7 := hid h7
            go_wp2_with fail
            refine (deliver_fn (nn : Int) nn k sent gs go ga a7 _ c7 w7 hk (by omega) rfl (by omega) (own_at ho7) rfl c1 c2 c3).mono ?_
            rintro e w8 ⟨rfl, b8⟩
            have hR8 := hR7.below b8
            go_wp2_with fail
            go_roundw
            case rel => exact ⟨i2 + 1, by omega, by go_num, by rw [show d + ((i2 + 1 : Nat) : Int) = d + (i2 : Int) + 1 by omega], hR8, (hRk.trans k7).then b8⟩
            case measure => simp [intOf]; omega
          · obtain rfl : i2 = n := by omega
            have hLn : L.drop i2 = [] := by rw [hn.out]; simp
            rw [hLn] at hR
            have hC101 : ∀ x ∈ C, -101 ≤ x ∧ x ≤ 101 := fun x hx => by have := hC x hx; omega
            have hCl100 : C.length ≤ 100 := by rw [hCl.out]; omega
            replace hC := hid hC
            replace hC101 := hid hC101
            replace hCl100 := hid hCl100
            replace hLn := hid hLn
            go_wp2_with fail
            go_loop [21, 22] (fun s i => ∃ i3 : Nat, i3 ≤ sent ∧ i = .int .i64 (i3 : Int) ∧ s = .int .i64 (C.take i3).sum) (fun _ i => sent - (intOf i).toNat)
            case atStart => exact ⟨0, Nat.zero_le _, rfl, rfl⟩
            case round =>
              obtain ⟨i3, hi3, rfl, rfl⟩ := hrel
              have tb := take_bound C i3 hCl100.out hC101.out
              by_cases hlt3 : i3 < sent
              · obtain ⟨cg, cc2, hcf⟩ := hR.cr.form (by rw [hCl.out]; omega)
                rw [hCl.out] at hcf
                cases hcf
                have cx := hR.cr.cell i3 (by rw [hCl.out]; omega)
                have tb2 := take_bound C (i3 + 1) hCl100.out hC101.out
                have ts := take_sum C i3 (by rw [hCl.out]; omega)
                obtain ⟨xi, hxi⟩ : ∃ x, x = C[i3]'(by rw [hCl.out]; omega) := ⟨_, rfl⟩
                rw [← hxi] at cx ts
                have hxb := hC101.out xi (by rw [hxi]; exact List.getElem_mem _)
                generalize (C.take i3).sum = S3 at tb ts ⊢
                replace ts := hid ts
                replace hxi := hid hxi
                go_wp2_with fail
                go_round
                case rel => exact ⟨i3 + 1, by omega, by go_num, by rw [ts.out]⟩
                case measure => simp [intOf]; omega
              · obtain rfl : i3 = sent := by omega
                rw [show C.take i3 = C by rw [← hCl.out]; exact List.take_length] at tb ⊢
                have hs := hsum.out
                rw [← hn.out] at hs
                have hl2 := hlst.out
                obtain ⟨SS, hSS⟩ : ∃ SS, SS = C.sum := ⟨_, rfl⟩
                rw [← hSS] at hs hl2 tb ⊢
                have q1 : (d + (i2 : Int) == SS) = true := by simp; omega
                have q2 : ((last : Int) == SS + t) = true := by simp; omega
                replace hs := hid hs
                replace hl2 := hid hl2
                replace hSS := hid hSS
                go_wp2_with fail
                refine (list_any _ hR.net (by simp) (by omega)).mono ?_
                rintro e w9 ⟨v9, Q9, rfl, hQ9, hP9, b9⟩
                have hQ0 : Q9 = [] := by simpa using hQ9
                subst hQ0
                obtain ⟨l9, c9, hv9, _⟩ := owns_form hP9.row
                subst hv9
                simp only [List.length_nil]
                have K9 := (K5.trans (all_turn hRk)).then b9
                clear hQ9
                replace hP9 := hid hP9
                go_wp2_with fail
                refine (awake_any _).mono ?_
                rintro e w10 ⟨rfl, b10⟩
                go_wp2
                go_ret
                exact ⟨rfl, B3.trans ((K9.then b10).below (fun k e => by unfold AllB at e; omega) B3.size)⟩

      · have g1 : decide ((j : Int) < (len : Int)) = false := decide_eq_false (by omega)
        have hLl := hS.net.few
        replace hsum := hid hsum
        replace hlst := hid hlst
        go_wp2_with fail
        refine (list_any _ hS.net (by omega) (by omega)).mono ?_
        rintro e w5 ⟨v5, Q5, rfl, hQ5, hP5, b5⟩
        obtain ⟨n, hn⟩ : ∃ n, n = L.length := ⟨_, rfl⟩
        have hQl : Q5.length = n := by have := congrArg List.length hQ5; rw [List.length_map, List.length_map] at this; omega
        have hrow := hP5.row
        rw [hQl] at hrow
        obtain ⟨la, lc, rfl, _⟩ := owns_form hrow
        have hS5 := hS.below b5
        rw [← hn] at hLl
        replace hn := hid hn
        replace hQl := hid hQl
        replace hQ5 := hid hQ5
        replace hrow := hid hrow
        have K5 := hK.then b5
        have ord := hS.ord
        have hPl := World.ownsRow.lt hP5.row
        have hpl := hS.net.lt
        have hml := hS.net.own.lt
        obtain ⟨s0, hs0⟩ : ∃ s0, s0 = wr.heap.size := ⟨_, rfl⟩
        rw [← hs0] at hPl hpl hml
        have hCl := hS.Cl
        obtain ⟨ca, cc, hcv, _⟩ := owns_form hS.cr
        rw [hCl] at hcv
        subst hcv
        have hlen4 := hS.Ol
        replace hs0 := hid hs0
        replace hCl := hid hCl
        go_wp2_with fail
        go_loopw [10, 20] (fun v10 i wr => ∃ i2 : Nat, i2 ≤ n ∧ i = .int .i64 (i2 : Int) ∧ v10 = .int .i64 (d + (i2 : Int)) ∧ S2 base p m gs go ga w5 wr L i2 last sent O C (.slice ca sent cc)) (fun _ i _ => n - (intOf i).toNat)
        case atStart => exact ⟨0, Nat.zero_le _, rfl, by simp, hS5, Kp.refl _ _⟩
        case round =>
          obtain ⟨i2, hi2, rfl, rfl, hR, hRk⟩ := hrel
          by_cases hlt2 : i2 < n
          · obtain ⟨lb, lo, hla, _⟩ := owns_cat hrow.out (by intro e; have := cells_len Q5; rw [e, hQl.out] at this; simp at this; omega)
            subst hla
            have hixQ : i2 < Q5.length := by rw [hQl.out]; exact hlt2
            have hixL : i2 < L.length := by rw [← hn.out]; exact hlt2
            have hlb := (hPl lb rfl).1
            have hfl : Q5[i2].flat = L[i2].flat := by
              have := congrArg (fun l => l[i2]?) hQ5.out
              simpa [hixQ, hixL] using this
            have r0 := kp_cell hRk (hP5.packet i2 hixQ).1 (fun e => by rcases e with e | e <;> (simp at e; omega))
            have hnum : Q5[i2].num = L[i2].num := congrArg (fun x => x.1) hfl
            have hdrop : L.drop i2 = L[i2] :: L.drop (i2 + 1) := List.drop_eq_getElem_cons hixL
            obtain ⟨q, hq⟩ : ∃ q, q = L[i2] := ⟨_, rfl⟩
            rw [hnum, ← hq] at r0
            rw [← hq] at hdrop
            have hmem : q ∈ L.drop i2 := by rw [hdrop]; simp
            obtain ⟨k, hk, hO, hfr, hto, hbody⟩ := hR.pk q hmem
            have hfind := find_of_mem hR.net.rise hmem
            have hqn := hR.net.nums q hmem
            have hdel0 := del_head q (L.drop (i2 + 1)) (by rw [← hdrop]; exact hR.net.rise)
            obtain ⟨nn, hnn⟩ : ∃ nn : Nat, q.num = (nn : Int) := ⟨q.num.toNat, by omega⟩
            rw [hnn] at r0 hfind hqn hO hdel0
            rw [Int.toNat_natCast] at hO
            have hnn1 : nn ≤ 100 := by omega
            have hOn : O[nn]'(by omega) = (k : Int) + 1 := by
              rw [List.getD_eq_getElem?_getD, List.getElem?_eq_getElem (by omega)] at hO
              simpa using hO
            have hdel := deliver_yes (nn : Int) q _ hR.net (wf_i (by omega) (by omega)) hfind
            rw [hfr, hto, hnn, hbody] at hdel
            replace hdel := hid hdel
            replace hq := hid hq
            replace hnn := hid hnn
            replace hdrop := hid hdrop
            replace hdel0 := hid hdel0
            replace hfind := hid hfind
            replace hO := hid hO
            replace hOn := hid hOn
            replace hfr := hid hfr
            replace hto := hid hto
            replace hbody := hid hbody
            replace hlen4 := hid hlen4
            clear hfl hnum
            go_wp2_with fail
            refine hdel.out.mono ?_
            rintro e w7 ⟨a7, c7, rfl, ho7, h7, k7⟩
            have hR7 := hR.del k7 h7
            rw [hdrop.out, hdel0.out] at hR7
            have c1 := hR7.cs.cell
            have c2 := hR7.co.cell
            have c3 := hR7.ow.cell nn (by rw [hlen4.out]; omega)
            rw [hOn.out] at c3
            replace h7 := hid h7
            go_wp2_with fail
            refine (deliver_fn (nn : Int) nn k sent gs go ga a7 _ c7 w7 hk (by omega) rfl (by omega) (own_at ho7) rfl c1 c2 c3).mono ?_
            rintro e w8 ⟨rfl, b8⟩
            have hR8 := hR7.below b8
            go_wp2_with fail
            go_roundw
            case rel => exact ⟨i2 + 1, by omega, by go_num, by rw [show d + ((i2 + 1 : Nat) : Int) = d + (i2 : Int) + 1 by omega], hR8, (hRk.trans k7).then b8⟩
            case measure => simp [intOf]; omega
          · obtain rfl : i2 = n := by omega
            have hLn : L.drop i2 = [] := by rw [hn.out]; simp
            rw [hLn] at hR
            have hC101 : ∀ x ∈ C, -101 ≤ x ∧ x ≤ 101 := fun x hx => by have := hC x hx; omega
            have hCl100 : C.length ≤ 100 := by rw [hCl.out]; omega
            replace hC := hid hC
            replace hC101 := hid hC101
            replace hCl100 := hid hCl100
            replace hLn := hid hLn
            go_wp2_with fail
            go_loop [21, 22] (fun s i => ∃ i3 : Nat, i3 ≤ sent ∧ i = .int .i64 (i3 : Int) ∧ s = .int .i64 (C.take i3).sum) (fun _ i => sent - (intOf i).toNat)
            case atStart => exact ⟨0, Nat.zero_le _, rfl, rfl⟩
            case round =>
              obtain ⟨i3, hi3, rfl, rfl⟩ := hrel
              have tb := take_bound C i3 hCl100.out hC101.out
              by_cases hlt3 : i3 < sent
              · obtain ⟨cg, cc2, hcf⟩ := hR.cr.form (by rw [hCl.out]; omega)
                rw [hCl.out] at hcf
                cases hcf
                have cx := hR.cr.cell i3 (by rw [hCl.out]; omega)
                have tb2 := take_bound C (i3 + 1) hCl100.out hC101.out
                have ts := take_sum C i3 (by rw [hCl.out]; omega)
                obtain ⟨xi, hxi⟩ : ∃ x, x = C[i3]'(by rw [hCl.out]; omega) := ⟨_, rfl⟩
                rw [← hxi] at cx ts
                have hxb := hC101.out xi (by rw [hxi]; exact List.getElem_mem _)
                generalize (C.take i3).sum = S3 at tb ts ⊢
                replace ts := hid ts
                replace hxi := hid hxi
                go_wp2_with fail
                go_round
                case rel => exact ⟨i3 + 1, by omega, by go_num, by rw [ts.out]⟩
                case measure => simp [intOf]; omega
              · obtain rfl : i3 = sent := by omega
                rw [show C.take i3 = C by rw [← hCl.out]; exact List.take_length] at tb ⊢
                have hs := hsum.out
                rw [← hn.out] at hs
                have hl2 := hlst.out
                obtain ⟨SS, hSS⟩ : ∃ SS, SS = C.sum := ⟨_, rfl⟩
                rw [← hSS] at hs hl2 tb ⊢
                have q1 : (d + (i2 : Int) == SS) = true := by simp; omega
                have q2 : ((last : Int) == SS + t) = true := by simp; omega
                replace hs := hid hs
                replace hl2 := hid hl2
                replace hSS := hid hSS
                go_wp2_with fail
                refine (list_any _ hR.net (by simp) (by omega)).mono ?_
                rintro e w9 ⟨v9, Q9, rfl, hQ9, hP9, b9⟩
                have hQ0 : Q9 = [] := by simpa using hQ9
                subst hQ0
                obtain ⟨l9, c9, hv9, _⟩ := owns_form hP9.row
                subst hv9
                simp only [List.length_nil]
                have K9 := (K5.trans (all_turn hRk)).then b9
                clear hQ9
                replace hP9 := hid hP9
                go_wp2_with fail
                refine (awake_any _).mono ?_
                rintro e w10 ⟨rfl, b10⟩
                go_wp2
                go_ret
                exact ⟨rfl, B3.trans ((K9.then b10).below (fun k e => by unfold AllB at e; omega) B3.size)⟩

end Go.Proofs.Ytgjjgfppolmkoaa
