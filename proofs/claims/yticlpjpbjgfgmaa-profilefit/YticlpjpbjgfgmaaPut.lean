/- The closure that puts a value: what it leaves in the variables that it shares. -/
import Derived.Test.YticlpjpbjgfgmaaLeast
namespace Go.Proofs.Yticlpjpbjgfgmaa
open Go.RowKit

theorem block_ne {w : World} {g k : Nat} {c d : Array Value} {t u : TypeId} {f m : Nat × Nat} (h : w.heap[g]? = some (.cells c t f)) (hk : w.heap[k]? = some (.cells d u m)) (hne : t ≠ u) : g ≠ k := by
  rintro rfl
  rw [h] at hk
  simp at hk
  exact hne hk.2.1

theorem One.off {w : World} {g t k u : Nat} {v x : Value} (h : One w g v t) (k' : One w k x u) (hne : t ≠ u) : g ≠ k := block_ne h k' hne

theorem one_row {w : World} {g t base e size n : Nat} {v x : Value} {xs : List Value} (h : One w g x t) (hr : w.ownsRow base e size v n xs) (he : t ≠ e) : v.ownBlock ≠ some g := by
  intro ev
  rcases hr.2 with ⟨hv, _⟩ | ⟨g', cap, cur, hv, _, hg, _⟩
  · rw [hv] at ev; cases ev
  · rw [hv] at ev
    have e1 : g' = g := Option.some.inj ev
    subst e1
    exact block_ne h hg he rfl

/-- The variables of Add: where they lie, and what was put. -/
structure AS (w0 w : World) (gf gp gt gn go gs rb : Nat) (a b n : Int) (s : List Cut × Bool) : Prop where
  f : One w gf (.int .i64 a) 2
  t : One w gt (.int .i64 b) 2
  n : One w gn (.int .i64 n) 3
  o : One w go (.bool s.2) 4
  p : One w gp (.func (.func 77) #[] #[ptr go, ptr gs]) 97
  row : ∃ ad c, One w gs (.slice ad s.1.length c) 38 ∧ SOwn w rb (.slice ad s.1.length c) s.1
  lo : w0.heap.size ≤ go ∧ w0.heap.size ≤ gs ∧ w0.heap.size ≤ rb
  hi : gf < rb ∧ gt < rb ∧ gn < rb ∧ go < rb ∧ gp < rb ∧ gs < rb ∧ rb ≤ w.heap.size
  bel : Below w0.heap.size w0 w

/-- What may turn. -/
def Ts (go gs rb : Nat) : Nat → Prop := fun k => k = go ∨ k = gs ∨ rb ≤ k

theorem AS.drew {w0 w : World} {gf gp gt gn go gs rb : Nat} {a b n : Int} {s : List Cut × Bool} (h : AS w0 w gf gp gt gn go gs rb a b n s) : AS w0 w.drew gf gp gt gn go gs rb a b n s := by
  obtain ⟨ad, c, h1, h2⟩ := h.row
  exact ⟨h.f, h.t, h.n, h.o, h.p, ⟨ad, c, h1, h2⟩, h.lo, h.hi, h.bel.trans ((drew_below _).mono h.bel.size)⟩

theorem AS.setO {w0 w : World} {gf gp gt gn go gs rb : Nat} {a b n : Int} {s : List Cut × Bool} (h : AS w0 w gf gp gt gn go gs rb a b n s) (q : Bool) : AS w0 (w.setCell ⟨go, 0, none⟩ (.bool q)) gf gp gt gn go gs rb a b n (s.1, q) := by
  have hk : Kp (fun k => k = go) w (w.setCell ⟨go, 0, none⟩ (.bool q)) := kp_one _
  obtain ⟨ad, c, h1, h2⟩ := h.row
  refine ⟨h.f.kp hk (h.f.off h.o (by decide)), h.t.kp hk (h.t.off h.o (by decide)), h.n.kp hk (h.n.off h.o (by decide)), h.o.set _, h.p.kp hk (h.p.off h.o (by decide)), ⟨ad, c, h1.kp hk (h1.off h.o (by decide)), owns_kp h2 hk fun k e1 e2 => one_row h.o h2 (by decide) (by rw [e1, e2])⟩, h.lo, ?_, ?_⟩
  · have := h.hi; have := hk.size; omega
  · exact h.bel.trans (hk.below (fun k e => by subst e; exact h.lo.1) h.bel.size)

/-- What was put behind has been stored. -/
theorem AS.setR {w0 w w1 : World} {gf gp gt gn go gs rb : Nat} {a b n : Int} {s : List Cut × Bool} (h : AS w0 w gf gp gt gn go gs rb a b n s) (hk : Kp (fun k => rb ≤ k) w w1) (ad : Option Addr) (m c : Nat) (C : List Cut) (hm : m = C.length) (ho : SOwn w1 rb (.slice ad m c) C) : AS w0 (w1.setCell ⟨gs, 0, none⟩ (.slice ad m c)) gf gp gt gn go gs rb a b n (C, s.2) := by
  subst hm
  have hi := h.hi
  obtain ⟨ad0, c0, g1, _⟩ := h.row
  have f1 := h.f.kp hk (by show ¬ rb ≤ gf; omega)
  have t1 := h.t.kp hk (by show ¬ rb ≤ gt; omega)
  have n1 := h.n.kp hk (by show ¬ rb ≤ gn; omega)
  have o1 := h.o.kp hk (by show ¬ rb ≤ go; omega)
  have p1 := h.p.kp hk (by show ¬ rb ≤ gp; omega)
  have s1 := g1.kp hk (by show ¬ rb ≤ gs; omega)
  have hk2 : Kp (fun k => k = gs) w1 (w1.setCell ⟨gs, 0, none⟩ (.slice ad C.length c)) := kp_one _
  have hz1 := hk.size
  have hz2 := hk2.size
  have B1 : Below w0.heap.size w0 w1 := h.bel.trans (hk.below (fun k e => by have := h.lo; omega) h.bel.size)
  refine ⟨f1.kp hk2 (f1.off s1 (by decide)), t1.kp hk2 (t1.off s1 (by decide)), n1.kp hk2 (n1.off s1 (by decide)), o1.kp hk2 (o1.off s1 (by decide)), p1.kp hk2 (p1.off s1 (by decide)), ⟨ad, c, s1.set _, owns_kp ho hk2 fun k e1 e2 => one_row s1 ho (by decide) (by rw [e1, e2])⟩, h.lo, by omega, ?_⟩
  exact B1.trans (hk2.below (fun k e => by subst e; exact h.lo.2.1) B1.size)

theorem AS.own {w0 w : World} {gf gp gt gn go gs rb : Nat} {a b n : Int} {s : List Cut × Bool} (h : AS w0 w gf gp gt gn go gs rb a b n s) (q : Bool) {v : Value} {C : List Cut} (h2 : SOwn w rb v C) : SOwn (w.setCell ⟨go, 0, none⟩ (.bool q)) rb v C :=
  owns_kp h2 (kp_one (g := go) (.bool q)) fun k e1 e2 => one_row h.o h2 (by decide) (by rw [e1, e2])

theorem put_more {o : List Cut} {x v : Int} (h : o.length = 0 ∨ lastF o ≠ v) : putL o x v = o ++ [(x, v)] := if_pos h
theorem put_same {o : List Cut} {x v : Int} (h : ¬ (o.length = 0 ∨ lastF o ≠ v)) : putL o x v = o := if_neg h
theorem cc_snoc (o : List Cut) (x v : Int) : (o ++ [(x, v)]).flatMap cc = o.flatMap cc ++ [.int .i64 x, .int .i64 v] := by simp [cc]
theorem two_one (x v : Int) : ∀ u ∈ [Value.int .i64 x, .int .i64 v], u.oneCell' = true := by
  intro u hu; simp at hu; rcases hu with rfl | rfl <;> rfl

set_option maxRecDepth 100000 in
set_option maxHeartbeats 400000 in
theorem put_true_nil (w0 : World) (gf gp gt gn go gs rb : Nat) (a b n x v : Int) (C : List Cut) (w : World) (h : AS w0 w gf gp gt gn go gs rb a b n (C, true)) (_hl : C.length ≤ 20000) (hc : C.length = 0) :
    Calls Try.prog 77 #[.int .i64 x, .int .i64 v, ptr go, ptr gs] w fun e w' => e = .returned (.tuple #[]) ∧ AS w0 w' gf gp gt gn go gs rb a b n (putS (C, true) x v) := by
  obtain ⟨i0, hi0, hz0, hz1, hz2⟩ := info_parts info36
  have co := h.o.cell
  have fo := h.o.free
  have kV := isvalue_any v w
  obtain ⟨ad, c, g1, g2⟩ := h.row
  have cs := g1.cell
  have fs := g1.free
  have n1 : go ≠ gs := h.o.off g1 (by decide)
  have n2 : gs ≠ go := Ne.symm n1
  have hp := hid (show putS (C, true) x v = (putL C x v, true) from rfl)
  obtain ⟨m, hm⟩ : ∃ m, m = C.length := ⟨_, rfl⟩
  have e2 : (C, true).1.length = m := hm.symm
  rw [e2] at g2 cs
  rw [← hm] at hc
  subst hc
  have hpl := hid (put_more (o := C) (x := x) (v := v) (.inl hm.symm))
  have hml : 0 ≤ 20000 := by omega
  have hm' := hid hm
  have hlo := h.lo
  have hhi := h.hi
  clear hm e2 g1
  unfold ptr at *
  replace h := hid h
  replace g2 := hid g2
  go_enter Try.func77, Try.ntmps77
  go_wp2_with (at_builtin; refine Hid.out ?_)
  have hA := h.out.setO true
  have G2 := h.out.own true g2.out
  have hz : (w.setCell ⟨go, 0, none⟩ (.bool true)).heap.size = w.heap.size := World.size_setCell _ _ _
  clear co fo cs fs
  generalize w.setCell ⟨go, 0, none⟩ (.bool true) = w1 at *
  rw [← hz]
  rw [← hz] at hhi
  replace hz := hid hz
  obtain ⟨_, _, A1, _⟩ := hA.row
  replace hA := hid hA
  have bl := below_lit w1 (.cells #[.int .i64 x, .int .i64 v] 40)
  have hv2 := G2.below bl
  unfold SOwn at hv2
  rw [← hm'.out] at hv2
  refine wpList_cat _ rfl (.tmp 26) (.tmp 30) 38 rfl rb 40 i0 _ 2 16 Try.underlying38 hi0 hz0 hz1 hz2 rfl (by omega) _ _ _ rfl hv2 (some ⟨w1.heap.size, 0, none⟩) 1 _ [.int .i64 x, .int .i64 v] rfl rfl (cat_lit _ _ _ _ rfl) (two_one _ _) (by unfold maxLen; omega) (by omega) (by have := bl.size; omega) ?_
  intro v3 w3 hr3 hg3 hv3
  obtain ⟨a3, c3, rfl, _⟩ := owns_form hr3
  have K3 : Kp (fun k => rb ≤ k) w1 w3 := (Kp.of_below bl).next (Kp.grown hg3) (fun i hi e => (hv2.lt i e).1)
  have A3 := A1.kp K3 (by show ¬ rb ≤ gs; omega)
  have cs3 := A3.cell
  have fs3 := A3.free
  have hlen : 0 + 1 = (C ++ [(x, v)]).length := by rw [List.length_append, ← hm'.out]; rfl
  have hfin := hid (hA.out.setR K3 a3 (0 + 1) c3 (C ++ [(x, v)]) hlen (by unfold SOwn; rw [← hlen, cc_snoc]; exact hr3))
  clear hlen hr3 hg3 hv3 hv2 bl A3 A1
  go_wp2
  go_end0
  rw [hp.out, hpl.out]
  exact ⟨rfl, hfin.out⟩

set_option maxRecDepth 100000 in
set_option maxHeartbeats 400000 in
theorem put_true_same (w0 : World) (gf gp gt gn go gs rb : Nat) (a b n x v : Int) (C : List Cut) (w : World) (h : AS w0 w gf gp gt gn go gs rb a b n (C, true)) (hl : C.length ≤ 20000) (hc : 0 < C.length ∧ lastF C = v) :
    Calls Try.prog 77 #[.int .i64 x, .int .i64 v, ptr go, ptr gs] w fun e w' => e = .returned (.tuple #[]) ∧ AS w0 w' gf gp gt gn go gs rb a b n (putS (C, true) x v) := by
  obtain ⟨i0, hi0, hz0, hz1, hz2⟩ := info_parts info36
  have co := h.o.cell
  have fo := h.o.free
  have kV := isvalue_any v w
  obtain ⟨ad, c, g1, g2⟩ := h.row
  have cs := g1.cell
  have fs := g1.free
  have n1 : go ≠ gs := h.o.off g1 (by decide)
  have n2 : gs ≠ go := Ne.symm n1
  have hp := hid (show putS (C, true) x v = (putL C x v, true) from rfl)
  obtain ⟨m, hm⟩ : ∃ m, m = C.length := ⟨_, rfl⟩
  have e2 : (C, true).1.length = m := hm.symm
  rw [e2] at g2 cs
  have hm0 : 0 < m := by rw [hm]; exact hc.1
  obtain ⟨p, hpm⟩ : ∃ p, m = p + 1 := ⟨m - 1, by omega⟩
  subst hpm
  have sat := g2.sat
  obtain ⟨rg, ro, e⟩ := SAt.place sat hc.1
  subst e
  have n3 : rg ≠ go := fun e => one_row h.o g2 (by decide) (by rw [← e]; rfl)
  have n4 : go ≠ rg := Ne.symm n3
  have y1 := (SAt.one sat (show p < C.length by omega)).2
  have hlf : fr C p = lastF C := by unfold lastF; rw [← hm, Nat.add_sub_cancel]
  rw [hlf] at y1
  have hpw : IntKind.i64.wrap ((p : Int) + 1 - 1) = (p : Int) := by rw [IntKind.wrap_i64]; omega
  have hpv : IntKind.i64.wrap (p : Int) = (p : Int) := by rw [IntKind.wrap_i64]; omega
  have dz : ((p : Int) + 1 == 0) = false := by simp; omega
  clear sat
  rw [hc.2] at y1
  have hpl := hid (put_same (o := C) (x := x) (v := v) (fun k => k.elim (fun k => by omega) (fun k => k hc.2)))
  have hml : p + 1 ≤ 20000 := by omega
  have hm' := hid hm
  have hlo := h.lo
  have hhi := h.hi
  clear hm e2 g1
  unfold ptr at *
  replace hc := hid hc
  clear hlf
  replace h := hid h
  replace g2 := hid g2
  go_enter Try.func77, Try.ntmps77
  go_wp2
  go_end0
  rw [hp.out, hpl.out]
  exact ⟨rfl, h.out.setO _⟩

set_option maxRecDepth 100000 in
set_option maxHeartbeats 400000 in
theorem put_true_more (w0 : World) (gf gp gt gn go gs rb : Nat) (a b n x v : Int) (C : List Cut) (w : World) (h : AS w0 w gf gp gt gn go gs rb a b n (C, true)) (hl : C.length ≤ 20000) (hc : 0 < C.length ∧ lastF C ≠ v) :
    Calls Try.prog 77 #[.int .i64 x, .int .i64 v, ptr go, ptr gs] w fun e w' => e = .returned (.tuple #[]) ∧ AS w0 w' gf gp gt gn go gs rb a b n (putS (C, true) x v) := by
  obtain ⟨i0, hi0, hz0, hz1, hz2⟩ := info_parts info36
  have co := h.o.cell
  have fo := h.o.free
  have kV := isvalue_any v w
  obtain ⟨ad, c, g1, g2⟩ := h.row
  have cs := g1.cell
  have fs := g1.free
  have n1 : go ≠ gs := h.o.off g1 (by decide)
  have n2 : gs ≠ go := Ne.symm n1
  have hp := hid (show putS (C, true) x v = (putL C x v, true) from rfl)
  obtain ⟨m, hm⟩ : ∃ m, m = C.length := ⟨_, rfl⟩
  have e2 : (C, true).1.length = m := hm.symm
  rw [e2] at g2 cs
  have hm0 : 0 < m := by rw [hm]; exact hc.1
  obtain ⟨p, hpm⟩ : ∃ p, m = p + 1 := ⟨m - 1, by omega⟩
  subst hpm
  have sat := g2.sat
  obtain ⟨rg, ro, e⟩ := SAt.place sat hc.1
  subst e
  have n3 : rg ≠ go := fun e => one_row h.o g2 (by decide) (by rw [← e]; rfl)
  have n4 : go ≠ rg := Ne.symm n3
  have y1 := (SAt.one sat (show p < C.length by omega)).2
  have hlf : fr C p = lastF C := by unfold lastF; rw [← hm, Nat.add_sub_cancel]
  rw [hlf] at y1
  have hpw : IntKind.i64.wrap ((p : Int) + 1 - 1) = (p : Int) := by rw [IntKind.wrap_i64]; omega
  have hpv : IntKind.i64.wrap (p : Int) = (p : Int) := by rw [IntKind.wrap_i64]; omega
  have dz : ((p : Int) + 1 == 0) = false := by simp; omega
  clear sat
  have dn : (lastF C != v) = true := by simpa using hc.2
  have hpl := hid (put_more (o := C) (x := x) (v := v) (.inr hc.2))
  have hml : p + 1 ≤ 20000 := by omega
  have hm' := hid hm
  have hlo := h.lo
  have hhi := h.hi
  clear hm e2 g1
  unfold ptr at *
  replace hc := hid hc
  clear hlf
  generalize lastF C = LF at *
  replace h := hid h
  replace g2 := hid g2
  go_enter Try.func77, Try.ntmps77
  go_wp2_with (at_builtin; refine Hid.out ?_)
  have hA := h.out.setO true
  have G2 := h.out.own true g2.out
  have hz : (w.setCell ⟨go, 0, none⟩ (.bool true)).heap.size = w.heap.size := World.size_setCell _ _ _
  clear co fo cs fs
  generalize w.setCell ⟨go, 0, none⟩ (.bool true) = w1 at *
  rw [← hz]
  rw [← hz] at hhi
  replace hz := hid hz
  obtain ⟨_, _, A1, _⟩ := hA.row
  replace hA := hid hA
  have bl := below_lit w1 (.cells #[.int .i64 x, .int .i64 v] 40)
  have hv2 := G2.below bl
  unfold SOwn at hv2
  rw [← hm'.out] at hv2
  refine wpList_cat _ rfl (.tmp 26) (.tmp 30) 38 rfl rb 40 i0 _ 2 16 Try.underlying38 hi0 hz0 hz1 hz2 rfl (by omega) _ _ _ rfl hv2 (some ⟨w1.heap.size, 0, none⟩) 1 _ [.int .i64 x, .int .i64 v] rfl rfl (cat_lit _ _ _ _ rfl) (two_one _ _) (by unfold maxLen; omega) (by omega) (by have := bl.size; omega) ?_
  intro v3 w3 hr3 hg3 hv3
  obtain ⟨a3, c3, rfl, _⟩ := owns_form hr3
  have K3 : Kp (fun k => rb ≤ k) w1 w3 := (Kp.of_below bl).next (Kp.grown hg3) (fun i hi e => (hv2.lt i e).1)
  have A3 := A1.kp K3 (by show ¬ rb ≤ gs; omega)
  have cs3 := A3.cell
  have fs3 := A3.free
  have hlen : p + 1 + 1 = (C ++ [(x, v)]).length := by rw [List.length_append, ← hm'.out]; rfl
  have hfin := hid (hA.out.setR K3 a3 (p + 1 + 1) c3 (C ++ [(x, v)]) hlen (by unfold SOwn; rw [← hlen, cc_snoc]; exact hr3))
  clear hlen hr3 hg3 hv3 hv2 bl A3 A1
  go_wp2
  go_end0
  rw [hp.out, hpl.out]
  exact ⟨rfl, hfin.out⟩

set_option maxRecDepth 100000 in
set_option maxHeartbeats 400000 in
theorem put_false_nil (w0 : World) (gf gp gt gn go gs rb : Nat) (a b n x v : Int) (C : List Cut) (w : World) (h : AS w0 w gf gp gt gn go gs rb a b n (C, false)) (_hl : C.length ≤ 20000) (hc : C.length = 0) :
    Calls Try.prog 77 #[.int .i64 x, .int .i64 v, ptr go, ptr gs] w fun e w' => e = .returned (.tuple #[]) ∧ AS w0 w' gf gp gt gn go gs rb a b n (putS (C, false) x v) := by
  obtain ⟨i0, hi0, hz0, hz1, hz2⟩ := info_parts info36
  have co := h.o.cell
  have fo := h.o.free
  have kV := isvalue_any v w
  obtain ⟨ad, c, g1, g2⟩ := h.row
  have cs := g1.cell
  have fs := g1.free
  have n1 : go ≠ gs := h.o.off g1 (by decide)
  have n2 : gs ≠ go := Ne.symm n1
  have hp := hid (show putS (C, false) x v = (putL C x v, (!isVB v)) from rfl)
  obtain ⟨m, hm⟩ : ∃ m, m = C.length := ⟨_, rfl⟩
  have e2 : (C, false).1.length = m := hm.symm
  rw [e2] at g2 cs
  rw [← hm] at hc
  subst hc
  have hpl := hid (put_more (o := C) (x := x) (v := v) (.inl hm.symm))
  have hml : 0 ≤ 20000 := by omega
  have hm' := hid hm
  have hlo := h.lo
  have hhi := h.hi
  clear hm e2 g1
  unfold ptr at *
  replace h := hid h
  replace g2 := hid g2
  go_enter Try.func77, Try.ntmps77
  go_wp2_with fail
  refine kV.mono ?_
  rintro e w2 ⟨rfl, rfl⟩
  generalize isVB v = IV at *
  go_wp2_with (at_builtin; refine Hid.out ?_)
  have hA := h.out.setO (!IV)
  have G2 := h.out.own (!IV) g2.out
  have hz : (w2.setCell ⟨go, 0, none⟩ (.bool (!IV))).heap.size = w2.heap.size := World.size_setCell _ _ _
  clear co fo cs fs
  generalize w2.setCell ⟨go, 0, none⟩ (.bool (!IV)) = w1 at *
  rw [← hz]
  rw [← hz] at hhi
  replace hz := hid hz
  obtain ⟨_, _, A1, _⟩ := hA.row
  replace hA := hid hA
  have bl := below_lit w1 (.cells #[.int .i64 x, .int .i64 v] 40)
  have hv2 := G2.below bl
  unfold SOwn at hv2
  rw [← hm'.out] at hv2
  refine wpList_cat _ rfl (.tmp 26) (.tmp 30) 38 rfl rb 40 i0 _ 2 16 Try.underlying38 hi0 hz0 hz1 hz2 rfl (by omega) _ _ _ rfl hv2 (some ⟨w1.heap.size, 0, none⟩) 1 _ [.int .i64 x, .int .i64 v] rfl rfl (cat_lit _ _ _ _ rfl) (two_one _ _) (by unfold maxLen; omega) (by omega) (by have := bl.size; omega) ?_
  intro v3 w3 hr3 hg3 hv3
  obtain ⟨a3, c3, rfl, _⟩ := owns_form hr3
  have K3 : Kp (fun k => rb ≤ k) w1 w3 := (Kp.of_below bl).next (Kp.grown hg3) (fun i hi e => (hv2.lt i e).1)
  have A3 := A1.kp K3 (by show ¬ rb ≤ gs; omega)
  have cs3 := A3.cell
  have fs3 := A3.free
  have hlen : 0 + 1 = (C ++ [(x, v)]).length := by rw [List.length_append, ← hm'.out]; rfl
  have hfin := hid (hA.out.setR K3 a3 (0 + 1) c3 (C ++ [(x, v)]) hlen (by unfold SOwn; rw [← hlen, cc_snoc]; exact hr3))
  clear hlen hr3 hg3 hv3 hv2 bl A3 A1
  go_wp2
  go_end0
  rw [hp.out, hpl.out]
  exact ⟨rfl, hfin.out⟩

set_option maxRecDepth 100000 in
set_option maxHeartbeats 400000 in
theorem put_false_same (w0 : World) (gf gp gt gn go gs rb : Nat) (a b n x v : Int) (C : List Cut) (w : World) (h : AS w0 w gf gp gt gn go gs rb a b n (C, false)) (hl : C.length ≤ 20000) (hc : 0 < C.length ∧ lastF C = v) :
    Calls Try.prog 77 #[.int .i64 x, .int .i64 v, ptr go, ptr gs] w fun e w' => e = .returned (.tuple #[]) ∧ AS w0 w' gf gp gt gn go gs rb a b n (putS (C, false) x v) := by
  obtain ⟨i0, hi0, hz0, hz1, hz2⟩ := info_parts info36
  have co := h.o.cell
  have fo := h.o.free
  have kV := isvalue_any v w
  obtain ⟨ad, c, g1, g2⟩ := h.row
  have cs := g1.cell
  have fs := g1.free
  have n1 : go ≠ gs := h.o.off g1 (by decide)
  have n2 : gs ≠ go := Ne.symm n1
  have hp := hid (show putS (C, false) x v = (putL C x v, (!isVB v)) from rfl)
  obtain ⟨m, hm⟩ : ∃ m, m = C.length := ⟨_, rfl⟩
  have e2 : (C, false).1.length = m := hm.symm
  rw [e2] at g2 cs
  have hm0 : 0 < m := by rw [hm]; exact hc.1
  obtain ⟨p, hpm⟩ : ∃ p, m = p + 1 := ⟨m - 1, by omega⟩
  subst hpm
  have sat := g2.sat
  obtain ⟨rg, ro, e⟩ := SAt.place sat hc.1
  subst e
  have n3 : rg ≠ go := fun e => one_row h.o g2 (by decide) (by rw [← e]; rfl)
  have n4 : go ≠ rg := Ne.symm n3
  have y1 := (SAt.one sat (show p < C.length by omega)).2
  have hlf : fr C p = lastF C := by unfold lastF; rw [← hm, Nat.add_sub_cancel]
  rw [hlf] at y1
  have hpw : IntKind.i64.wrap ((p : Int) + 1 - 1) = (p : Int) := by rw [IntKind.wrap_i64]; omega
  have hpv : IntKind.i64.wrap (p : Int) = (p : Int) := by rw [IntKind.wrap_i64]; omega
  have dz : ((p : Int) + 1 == 0) = false := by simp; omega
  clear sat
  rw [hc.2] at y1
  have hpl := hid (put_same (o := C) (x := x) (v := v) (fun k => k.elim (fun k => by omega) (fun k => k hc.2)))
  have hml : p + 1 ≤ 20000 := by omega
  have hm' := hid hm
  have hlo := h.lo
  have hhi := h.hi
  clear hm e2 g1
  unfold ptr at *
  replace hc := hid hc
  clear hlf
  replace h := hid h
  replace g2 := hid g2
  go_enter Try.func77, Try.ntmps77
  go_wp2_with fail
  refine kV.mono ?_
  rintro e w2 ⟨rfl, rfl⟩
  generalize isVB v = IV at *
  go_wp2
  go_end0
  rw [hp.out, hpl.out]
  exact ⟨rfl, h.out.setO _⟩

set_option maxRecDepth 100000 in
set_option maxHeartbeats 400000 in
theorem put_false_more (w0 : World) (gf gp gt gn go gs rb : Nat) (a b n x v : Int) (C : List Cut) (w : World) (h : AS w0 w gf gp gt gn go gs rb a b n (C, false)) (hl : C.length ≤ 20000) (hc : 0 < C.length ∧ lastF C ≠ v) :
    Calls Try.prog 77 #[.int .i64 x, .int .i64 v, ptr go, ptr gs] w fun e w' => e = .returned (.tuple #[]) ∧ AS w0 w' gf gp gt gn go gs rb a b n (putS (C, false) x v) := by
  obtain ⟨i0, hi0, hz0, hz1, hz2⟩ := info_parts info36
  have co := h.o.cell
  have fo := h.o.free
  have kV := isvalue_any v w
  obtain ⟨ad, c, g1, g2⟩ := h.row
  have cs := g1.cell
  have fs := g1.free
  have n1 : go ≠ gs := h.o.off g1 (by decide)
  have n2 : gs ≠ go := Ne.symm n1
  have hp := hid (show putS (C, false) x v = (putL C x v, (!isVB v)) from rfl)
  obtain ⟨m, hm⟩ : ∃ m, m = C.length := ⟨_, rfl⟩
  have e2 : (C, false).1.length = m := hm.symm
  rw [e2] at g2 cs
  have hm0 : 0 < m := by rw [hm]; exact hc.1
  obtain ⟨p, hpm⟩ : ∃ p, m = p + 1 := ⟨m - 1, by omega⟩
  subst hpm
  have sat := g2.sat
  obtain ⟨rg, ro, e⟩ := SAt.place sat hc.1
  subst e
  have n3 : rg ≠ go := fun e => one_row h.o g2 (by decide) (by rw [← e]; rfl)
  have n4 : go ≠ rg := Ne.symm n3
  have y1 := (SAt.one sat (show p < C.length by omega)).2
  have hlf : fr C p = lastF C := by unfold lastF; rw [← hm, Nat.add_sub_cancel]
  rw [hlf] at y1
  have hpw : IntKind.i64.wrap ((p : Int) + 1 - 1) = (p : Int) := by rw [IntKind.wrap_i64]; omega
  have hpv : IntKind.i64.wrap (p : Int) = (p : Int) := by rw [IntKind.wrap_i64]; omega
  have dz : ((p : Int) + 1 == 0) = false := by simp; omega
  clear sat
  have dn : (lastF C != v) = true := by simpa using hc.2
  have hpl := hid (put_more (o := C) (x := x) (v := v) (.inr hc.2))
  have hml : p + 1 ≤ 20000 := by omega
  have hm' := hid hm
  have hlo := h.lo
  have hhi := h.hi
  clear hm e2 g1
  unfold ptr at *
  replace hc := hid hc
  clear hlf
  generalize lastF C = LF at *
  replace h := hid h
  replace g2 := hid g2
  go_enter Try.func77, Try.ntmps77
  go_wp2_with fail
  refine kV.mono ?_
  rintro e w2 ⟨rfl, rfl⟩
  generalize isVB v = IV at *
  go_wp2_with (at_builtin; refine Hid.out ?_)
  have hA := h.out.setO (!IV)
  have G2 := h.out.own (!IV) g2.out
  have hz : (w2.setCell ⟨go, 0, none⟩ (.bool (!IV))).heap.size = w2.heap.size := World.size_setCell _ _ _
  clear co fo cs fs
  generalize w2.setCell ⟨go, 0, none⟩ (.bool (!IV)) = w1 at *
  rw [← hz]
  rw [← hz] at hhi
  replace hz := hid hz
  obtain ⟨_, _, A1, _⟩ := hA.row
  replace hA := hid hA
  have bl := below_lit w1 (.cells #[.int .i64 x, .int .i64 v] 40)
  have hv2 := G2.below bl
  unfold SOwn at hv2
  rw [← hm'.out] at hv2
  refine wpList_cat _ rfl (.tmp 26) (.tmp 30) 38 rfl rb 40 i0 _ 2 16 Try.underlying38 hi0 hz0 hz1 hz2 rfl (by omega) _ _ _ rfl hv2 (some ⟨w1.heap.size, 0, none⟩) 1 _ [.int .i64 x, .int .i64 v] rfl rfl (cat_lit _ _ _ _ rfl) (two_one _ _) (by unfold maxLen; omega) (by omega) (by have := bl.size; omega) ?_
  intro v3 w3 hr3 hg3 hv3
  obtain ⟨a3, c3, rfl, _⟩ := owns_form hr3
  have K3 : Kp (fun k => rb ≤ k) w1 w3 := (Kp.of_below bl).next (Kp.grown hg3) (fun i hi e => (hv2.lt i e).1)
  have A3 := A1.kp K3 (by show ¬ rb ≤ gs; omega)
  have cs3 := A3.cell
  have fs3 := A3.free
  have hlen : p + 1 + 1 = (C ++ [(x, v)]).length := by rw [List.length_append, ← hm'.out]; rfl
  have hfin := hid (hA.out.setR K3 a3 (p + 1 + 1) c3 (C ++ [(x, v)]) hlen (by unfold SOwn; rw [← hlen, cc_snoc]; exact hr3))
  clear hlen hr3 hg3 hv3 hv2 bl A3 A1
  go_wp2
  go_end0
  rw [hp.out, hpl.out]
  exact ⟨rfl, hfin.out⟩

theorem put_any (w0 : World) (gf gp gt gn go gs rb : Nat) (a b n x v : Int) (s : List Cut × Bool) (w : World) (h : AS w0 w gf gp gt gn go gs rb a b n s) (hl : s.1.length ≤ 20000) :
    Calls Try.prog 77 #[.int .i64 x, .int .i64 v, ptr go, ptr gs] w fun e w' => e = .returned (.tuple #[]) ∧ AS w0 w' gf gp gt gn go gs rb a b n (putS s x v) := by
  obtain ⟨C, q⟩ := s
  rcases Nat.eq_zero_or_pos C.length with h0 | h0
  · cases q
    · exact put_false_nil w0 gf gp gt gn go gs rb a b n x v C w h hl h0
    · exact put_true_nil w0 gf gp gt gn go gs rb a b n x v C w h hl h0
  · by_cases h1 : lastF C = v
    · cases q
      · exact put_false_same w0 gf gp gt gn go gs rb a b n x v C w h hl ⟨h0, h1⟩
      · exact put_true_same w0 gf gp gt gn go gs rb a b n x v C w h hl ⟨h0, h1⟩
    · cases q
      · exact put_false_more w0 gf gp gt gn go gs rb a b n x v C w h hl ⟨h0, h1⟩
      · exact put_true_more w0 gf gp gt gn go gs rb a b n x v C w h hl ⟨h0, h1⟩

end Go.Proofs.Yticlpjpbjgfgmaa
