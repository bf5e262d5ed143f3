/- Spans in memory; joined: spans that rise and do not touch. -/
import Derived.Test.YtilncacmkfohdaaGreatPfAsk
import Derived.Test.YtilncacmkfohdaaGreatPfSrt
namespace Go.Proofs.YtilncacmkfohdaaGreat.Pf
open Go.RowKit

/-- A row of spans of the call's own. -/
def SpOwn (w : World) (base : Nat) (v : Value) (L : List Span) : Prop := w.ownsRow base 103 2 v L.length (L.flatMap sc)

theorem info93 : (Tryz.prog.info? 103).map (fun i => (i.zero, i.size, i.bytes)) = some (some (.agg #[.int .i64 0, .int .i64 0]), 2, 16) := by kernel_rfl
theorem sc_len (L : List Span) : (L.flatMap sc).length = L.length * 2 := flat_len sc 2 (fun _ => rfl) L
theorem SpOwn.nil (w : World) (base : Nat) : SpOwn w base (.slice none 0 0) [] := World.ownsRow_nil _ _ _ _
theorem SpOwn.below {w w' : World} {base : Nat} {v : Value} {L : List Span} (h : SpOwn w base v L) (hb : Below w.heap.size w w') : SpOwn w' base v L := owns_below h hb
theorem SpOwn.low {w : World} {base base' : Nat} {v : Value} {L : List Span} (h : SpOwn w base v L) (hb : base' ≤ base) : SpOwn w base' v L := owns_low h hb
theorem SpOwn.form {w : World} {base : Nat} {v : Value} {L : List Span} (h : SpOwn w base v L) (h0 : 0 < L.length) : ∃ g c, v = .slice (some ⟨g, 0, none⟩) L.length c ∧ base ≤ g ∧ g < w.heap.size := by
  rcases h.2 with ⟨_, hn⟩ | ⟨g, cap, cur, rfl, hb, hg, hc, _⟩
  · omega
  · exact ⟨g, cap, rfl, hb, (Array.getElem?_eq_some_iff.1 hg).1⟩

theorem sc_get (L : List Span) {i : Nat} (h : i < L.length) : (L.flatMap sc)[i * 2]? = some (.int .i64 (sp L i).1) ∧ (L.flatMap sc)[i * 2 + 1]? = some (.int .i64 (sp L i).2) := by
  have h0 := flat_get sc 2 (fun _ => rfl) L i 0 h (by omega)
  have h1 := flat_get sc 2 (fun _ => rfl) L i 1 h (by omega)
  rw [sp_eq h] at h0 h1
  exact ⟨h0, h1⟩

theorem SpOwn.cells {w : World} {base g n cap : Nat} {L : List Span} (h : SpOwn w base (.slice (some ⟨g, 0, none⟩) n cap) L) (hn : L.length = n) {i : Nat} (hi : i < n) :
    w.cell? ⟨g, i * 2, none⟩ = some (.int .i64 (sp L i).1) ∧ w.cell? ⟨g, i * 2 + 1, none⟩ = some (.int .i64 (sp L i).2) := by
  subst hn
  obtain ⟨h0, h1⟩ := sc_get L hi
  rw [← h0, ← h1]
  exact ⟨World.ownsRow.cellAt h _ (by omega), World.ownsRow.cellAt h _ (by omega)⟩
theorem SpOwn.free {w : World} {base g n cap : Nat} {L : List Span} (h : SpOwn w base (.slice (some ⟨g, 0, none⟩) n cap) L) (hn : L.length = n) (j : Nat) : w.frozen? ⟨g, j, none⟩ = false := by
  subst hn; exact World.ownsRow.frozenAt h j
theorem SpOwn.row {w : World} {base g n cap : Nat} {L : List Span} (h : SpOwn w base (.slice (some ⟨g, 0, none⟩) n cap) L) (hn : L.length = n) : SpRow w g L := fun i hi => ⟨h.cells hn (by omega), h.free hn _, h.free hn _⟩

theorem sc_set : ∀ (L : List Span) (i : Nat) (x : Int), i < L.length → (L.flatMap sc).set (i * 2 + 1) (.int .i64 x) = (L.set i ((sp L i).1, x)).flatMap sc
  | [], i, x, h => absurd h (Nat.not_lt_zero _)
  | s :: L, 0, x, _ => by simp [sc, sp]
  | s :: L, i + 1, x, h => by
    have e : (i + 1) * 2 + 1 = (i * 2 + 1) + 1 + 1 := by omega
    have hs : sp (s :: L) (i + 1) = sp L i := by simp [sp]
    rw [e, hs, List.flatMap_cons, List.set_cons_succ, List.flatMap_cons, ← sc_set L i x (by simpa using h)]
    simp [sc]

theorem SpOwn.set {w : World} {base g n cap : Nat} {L : List Span} (h : SpOwn w base (.slice (some ⟨g, 0, none⟩) n cap) L) (hn : L.length = n) {i : Nat} (hi : i < n) (x : Int) :
    SpOwn (w.setCell ⟨g, i * 2 + 1, none⟩ (.int .i64 x)) base (.slice (some ⟨g, 0, none⟩) n cap) (L.set i ((sp L i).1, x)) := by
  subst hn
  unfold SpOwn at *
  have := (World.ownsRow.stored h (i * 2 + 1) (.int .i64 x)).1
  rw [sc_set L i x hi] at this
  rw [List.length_set]
  exact this

theorem SpRow.below {w w' : World} {g : Nat} {L : List Span} (h : SpRow w g L) (hg : g < w.heap.size) (hb : Below w.heap.size w w') : SpRow w' g L := by
  intro i hi
  obtain ⟨⟨h1, h2⟩, h3, h4⟩ := h i hi
  refine ⟨⟨stay hb h1, stay hb h2⟩, ?_, ?_⟩
  · simp only [World.frozen?, hb.block g hg] at *; exact h3
  · simp only [World.frozen?, hb.block g hg] at *; exact h4

theorem perm_holds {l l' : List Span} (h : l'.Perm l) (t : Int) : HoldsT l' t ↔ HoldsT l t := by
  constructor
  · rintro ⟨s, hs, h1⟩; exact ⟨s, h.mem_iff.1 hs, h1⟩
  · rintro ⟨s, hs, h1⟩; exact ⟨s, h.mem_iff.2 hs, h1⟩
theorem perm_proper {l l' : List Span} (h : l'.Perm l) (hp : ProperL l) : ProperL l' := fun s hs => hp s (h.mem_iff.1 hs)

/-- The times of l, in spans that rise and do not touch. -/
def JoinOf (l L : List Span) : Prop := Apart L ∧ (∀ t, HoldsT L t ↔ HoldsT l t) ∧ L.length ≤ l.length

def JTold (l : List Span) (S : Nat → Prop) (w : World) (e : Ending) (w' : World) : Prop :=
  ∃ ad k L, e = .returned (.slice ad L.length k) ∧ JoinOf l L ∧ SpOwn w' w.heap.size (.slice ad L.length k) L ∧ Kp S w w'

theorem two_cells {w : World} (x y : Value) : (w.alloc (.cells #[x, y] 103)).cell? ⟨w.heap.size, 0, none⟩ = some x ∧ (w.alloc (.cells #[x, y] 103)).cell? ⟨w.heap.size, 1, none⟩ = some y := by
  have h : (w.alloc (.cells #[x, y] 103)).heap[w.heap.size]? = some (.cells #[x, y] 103 (0, 0)) := heap_alloc_new w _
  constructor <;> (unfold World.cell?; simp only [h]; rfl)

theorem sp_one (s : Span) : ∀ u ∈ [Value.int .i64 s.1, .int .i64 s.2], u.oneCell' = true := two_one s.1 s.2

set_option maxRecDepth 100000 in
set_option maxHeartbeats 2000000 in
theorem joined_some (g n c : Nat) (l : List Span) (w : World) (hn : l.length = n) (hl : n ≤ 100000) (h0 : 0 < n) (hg : g < w.heap.size) (hrow : SpRow w g l) (hp : ProperL l) :
    Calls Tryz.prog 72 #[.slice (some ⟨g, 0, none⟩) n c] w fun e w' => JTold l (fun k => k = g) w e w' := by
  obtain ⟨i0, hi0, hz0, hz1, hz2⟩ := info_parts info93
  have kS := sort_any g n c l w hn (by omega) hg hrow
  clear hrow
  replace hn := hid hn
  replace hp := hid hp
  go_enter Tryz.func72, Tryz.ntmps72
  go_wp2_with fail
  refine kS.mono ?_
  rintro e w1 ⟨rfl, l', hpm, hso, hrow, hk1⟩
  replace hpm := hid hpm
  replace hso := hid hso
  replace hrow := hid hrow
  have hl' := hid (show l'.length = n by rw [hpm.out.length_eq]; exact hn.out)
  have hg1 : g < w1.heap.size := Nat.lt_of_lt_of_le hg hk1.size
  have hpr := hid (perm_proper hpm.out hp.out)
  go_wp2_with fail
  go_loopw [3, 11] (fun v i wr => ∃ j : Nat, j ≤ n ∧ i = .int .i64 (j : Int) ∧ Hid (SpOwn wr w1.heap.size v (jnT l' j)) ∧ Below w1.heap.size w1 wr) (fun _ i _ => n - (intOf i).toNat)
  case atStart => exact ⟨0, Nat.zero_le _, rfl, hid (SpOwn.nil _ _), Below.refl _ _⟩
  case round =>
    obtain ⟨j, hj, rfl, hv, hb⟩ := hrel
    by_cases hlt : j < n
    · have hjL : j < l'.length := by rw [hl'.out]; exact hlt
      obtain ⟨⟨x0, x1⟩, _, _⟩ := (hrow.out.below hg1 hb) j hjL
      have hjn := hid (show jnT l' (j + 1) = jn (jnT l' j) (sp l' j) from rfl)
      have hjl := jnT_len l' j
      obtain ⟨z0, z1⟩ := two_cells (w := wr) (.int .i64 (sp l' j).1) (.int .i64 (sp l' j).2)
      have bl := below_lit wr (.cells #[.int .i64 (sp l' j).1, .int .i64 (sp l' j).2] 103)
      have hb2 := bnext hb bl
      generalize hA : jnT l' j = A at *
      replace hA := hid hA
      generalize hs : sp l' j = s at *
      replace hs := hid hs
      obtain ⟨X, Y⟩ := s
      dsimp only at x0 x1 z0 z1 bl hb2
      have hvb := hid (hv.out.below bl)
      clear hv
      generalize hwb : wr.alloc (.cells #[.int .i64 X, .int .i64 Y] 103) = wb at *
      replace hwb := hid hwb
      rcases Nat.eq_zero_or_pos A.length with hA0 | hA0
      · have hnil : A = [] := List.eq_nil_of_length_eq_zero hA0
        subst hnil
        obtain ⟨ad, cp, e, _⟩ := owns_form hvb.out
        simp only [List.length_nil] at e
        subst e
        have hj2 := hid (show jn [] (X, Y) = [(X, Y)] by simp [jn])
        go_wp2_with fail
        rw [hwb.out]
        go_quiet (fail)
        have hb3 := below_drewN hb2 nq
        have hvq := hid (SpOwn.below hvb.out (below_drewN (Below.refl _ _) nq))
        have y0 := stay (below_drewN (Below.refl _ _) nq) z0
        have y1 := stay (below_drewN (Below.refl _ _) nq) z1
        generalize wb.drewN nq = wq at *
        go_wp2_with (at_builtin; refine Hid.out ?_)
        refine hid ?_
        have bl2 := below_lit wq (.cells #[.int .i64 X, .int .i64 Y] 103)
        have hb4 := bnext hb3 bl2
        have hv4 := hvq.out.below bl2
        have hsz := size_alloc wq (.cells #[.int .i64 X, .int .i64 Y] 103)
        refine wpList_cat _ rfl (.tmp 42) (.tmp 44) 69 rfl w1.heap.size 103 i0 _ 2 16 Tryz.underlying69 hi0 hz0 hz1 hz2 rfl (by omega) _ _ _ rfl hv4 (some ⟨wq.heap.size, 0, none⟩) 1 1 [.int .i64 X, .int .i64 Y] rfl rfl (cat_lit _ _ _ _ rfl) (two_one X Y) (by rw [List.length_nil]; unfold maxLen; omega) (by rw [List.length_nil]; omega) hb4.size ?_
        intro v5 w5 hr5 hg5 hv5
        have B5 := hb4.grown hg5 hb4.size (fun k hk => (hv4.lt k hk).1)
        have ho5 := hid (show SpOwn w5 w1.heap.size v5 (jnT l' (j + 1)) by rw [hjn.out, hj2.out]; exact hr5)
        go_wp2_with fail
        go_roundw
        case rel => exact ⟨j + 1, by omega, by go_num, ho5, B5⟩
        case measure => simp [intOf]; omega
      · obtain ⟨r, hr⟩ : ∃ r, A.length = r + 1 := ⟨A.length - 1, by omega⟩
        obtain ⟨h, cp, e, hh1, hh2⟩ := hvb.out.form hA0
        rw [hr] at e
        subst e
        obtain ⟨q0, q1⟩ := hvb.out.cells hr (show r < r + 1 by omega)
        have qf := hvb.out.free hr (r * 2 + 1)
        have hrw : IntKind.i64.wrap ((r : Int) + 1 - 1) = (r : Int) := by rw [IntKind.wrap_i64]; omega
        have hrv : IntKind.i64.wrap (r : Int) = (r : Int) := by rw [IntKind.wrap_i64]; omega
        have dge : decide ((0 : Int) ≤ (r : Int)) = true := decide_eq_true (by omega)
        have hrb : r + 1 ≤ j := by omega
        have hAr : A.length - 1 = r := by omega
        by_cases hle : X ≤ (sp A r).2
        · have dle : decide (X ≤ (sp A r).2) = true := decide_eq_true hle
          have hj2 := hid (show jn A (X, Y) = A.set r ((sp A r).1, max (sp A r).2 Y) by unfold jn; rw [hAr, if_pos ⟨hA0, hle⟩])
          replace hAr := hid hAr
          replace hr := hid hr
          generalize hZ : (sp A r).2 = Z at *
          replace hZ := hid hZ
          generalize hZ0 : (sp A r).1 = Z0 at *
          replace hZ0 := hid hZ0
          go_wp2_with fail
          rw [hwb.out]
          go_quiet (fail)
          have hb3 := below_drewN hb2 nq
          have bq := below_drewN (Below.refl wb.heap.size wb) nq
          have hvq := hid (SpOwn.below hvb.out bq)
          have y0 := stay bq z0
          have y1 := stay bq z1
          have p1 := stay bq q1
          have pf : (wb.drewN nq).frozen? ⟨h, r * 2 + 1, none⟩ = false := qf
          have hlq : h < (wb.drewN nq).heap.size := Nat.lt_of_lt_of_le hh2 bq.size
          have hwq : wr.heap.size < (wb.drewN nq).heap.size := World.block_lt_of_cell? _ _ y0
          generalize wb.drewN nq = wq at *
          go_wp2_with fail
          go_region
          have hst := hid (show SpOwn (wq.setCell ⟨h, r * 2 + 1, none⟩ (.int .i64 (max Z Y))).drew w1.heap.size (.slice (some ⟨h, 0, none⟩) (r + 1) cp) (jnT l' (j + 1)) by
            have := (SpOwn.set hvq.out hr.out (show r < r + 1 by omega) (max Z Y)).below (drew_below _)
            rw [hZ0.out] at this
            rw [hjn.out, hj2.out]
            exact this)
          have B5 : Below w1.heap.size w1 (wq.setCell ⟨h, r * 2 + 1, none⟩ (.int .i64 (max Z Y))).drew := (hb3.setCell (p := ⟨h, r * 2 + 1, none⟩) hh1 _).drew
          generalize (wq.setCell ⟨h, r * 2 + 1, none⟩ (.int .i64 (max Z Y))).drew = w5 at *
          go_wp2_with fail
          go_roundw
          case rel => exact ⟨j + 1, by omega, by go_num, hst, B5⟩
          case measure => simp [intOf]; omega
        · have dle : decide (X ≤ (sp A r).2) = false := decide_eq_false hle
          have hj2 := hid (show jn A (X, Y) = A ++ [(X, Y)] by unfold jn; rw [hAr, if_neg fun h => hle h.2])
          replace hAr := hid hAr
          replace hr := hid hr
          generalize (sp A r).2 = Z at *
          generalize (sp A r).1 = Z0 at *
          go_wp2_with fail
          rw [hwb.out]
          go_quiet (fail)
          have hb3 := below_drewN hb2 nq
          have bq := below_drewN (Below.refl wb.heap.size wb) nq
          have hvq := hid (SpOwn.below hvb.out bq)
          have y0 := stay bq z0
          have y1 := stay bq z1
          generalize wb.drewN nq = wq at *
          go_wp2_with (at_builtin; refine Hid.out ?_)
          refine hid ?_
          have bl2 := below_lit wq (.cells #[.int .i64 X, .int .i64 Y] 103)
          have hb4 := bnext hb3 bl2
          have hv4 := hvq.out.below bl2
          unfold SpOwn at hv4
          rw [hr.out] at hv4
          refine wpList_cat _ rfl (.tmp 42) (.tmp 44) 69 rfl w1.heap.size 103 i0 _ 2 16 Tryz.underlying69 hi0 hz0 hz1 hz2 rfl (by omega) _ _ _ rfl hv4 (some ⟨wq.heap.size, 0, none⟩) 1 1 [.int .i64 X, .int .i64 Y] rfl rfl (cat_lit _ _ _ _ rfl) (two_one X Y) (by unfold maxLen; omega) (by omega) hb4.size ?_
          intro v5 w5 hr5 hg5 hv5
          have B5 := hb4.grown hg5 hb4.size (fun k hk => (hv4.lt k hk).1)
          have ho5 := hid (show SpOwn w5 w1.heap.size v5 (jnT l' (j + 1)) by
            rw [hjn.out, hj2.out]
            unfold SpOwn
            rw [List.length_append, hr.out, List.flatMap_append]
            exact hr5)
          go_wp2_with fail
          go_roundw
          case rel => exact ⟨j + 1, by omega, by go_num, ho5, B5⟩
          case measure => simp [intOf]; omega
    · have hje : j = n := by omega
      subst hje
      have hJ := ji_all hso.out hpr.out l'.length (Nat.le_refl _)
      have hJs := hJ.same
      rw [List.take_length] at hJs
      rw [hl'.out] at hJ hJs
      have hJo := hid (show JoinOf l (jnT l' j) from ⟨hJ.apart, fun t => (hJs t).trans (perm_holds hpm.out t), by rw [hn.out]; exact jnT_len _ _⟩)
      clear hJs
      clear hJ
      obtain ⟨ad, cp, e, _⟩ := owns_form hv.out
      subst e
      generalize jnT l' j = A at *
      go_wp2
      go_ret
      exact ⟨ad, cp, A, rfl, hJo.out, hv.out.low hk1.size, hk1.then hb⟩

end Go.Proofs.YtilncacmkfohdaaGreat.Pf
