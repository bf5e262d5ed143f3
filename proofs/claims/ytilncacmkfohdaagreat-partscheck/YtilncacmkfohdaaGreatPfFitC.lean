/- Fit's closure: what it leaves of a node's spans, and whether the node is open. -/
import Derived.Test.YtilncacmkfohdaaGreatPfTimes
import Derived.Test.YtilncacmkfohdaaGreatPfAhead
import Derived.Deep.DeepCutAuto
namespace Go.Proofs.YtilncacmkfohdaaGreat.Pf
open Go.RowKit

/-- Where a slice of spans lies: off h, below g. -/
def Lies (a : Option Addr) (h g : Nat) : Prop := a = none ∨ ∃ b o, a = some ⟨b, o, none⟩ ∧ b ≠ h ∧ b < g

/-- The spans of all nodes while a place is looked for. -/
structure FSt (w0 w : World) (gc h n cap : Nat) (M : List Sl1) : Prop where
  box : One w gc (.slice (some ⟨h, 0, none⟩) n cap) 66
  row : w.ownsRow w0.heap.size 69 1 (.slice (some ⟨h, 0, none⟩) n cap) n (M.map Sl1.val)
  len : M.length = n
  inner : ∀ x ∈ M, SpAt w x.a x.L
  room : ∀ x ∈ M, x.L.length ≤ x.c ∧ x.L.length ≤ 100000
  lies : ∀ x ∈ M, Lies x.a h gc
  lt : h < gc
  old : w0.heap.size ≤ gc
  bel : Below w0.heap.size w0 w

theorem FSt.below {w0 w w' : World} {gc h n cap : Nat} {M : List Sl1} (f : FSt w0 w gc h n cap M) (hb : Below w.heap.size w w') : FSt w0 w' gc h n cap M :=
  ⟨f.box.below hb, owns_below f.row hb, f.len, fun x hx => (f.inner x hx).below hb, f.room, f.lies, f.lt, f.old, bnext f.bel hb⟩

/-- A block that is newer than all of it is written. -/
theorem FSt.other {w0 w : World} {gc h n cap : Nat} {M : List Sl1} (f : FSt w0 w gc h n cap M) {g : Nat} (hg : gc < g) (v : Value) : FSt w0 (w.setCell ⟨g, 0, none⟩ v) gc h n cap M := by
  have hk := kp_one (w := w) (g := g) v
  have hl := f.lt
  refine ⟨f.box.kp hk (by omega), owns_kp f.row hk (fun k hk' e => ?_), f.len, fun x hx => ?_, f.room, f.lies, f.lt, f.old, f.bel.setCell (p := ⟨g, 0, none⟩) (by have := f.old; show w0.heap.size ≤ g; omega) _⟩
  · subst e
    simp [Value.ownBlock] at hk'
    omega
  · refine (f.inner x hx).kp hk fun y hy e => ?_
    rcases f.lies x hx with h1 | ⟨b, o, h1, h2, h3⟩
    · rw [h1] at hy; cases hy
    · rw [h1] at hy; cases hy
      simp only at e
      omega

/-- The slice of one node is replaced. -/
theorem FSt.put {w0 w : World} {gc h n cap : Nat} {M : List Sl1} (f : FSt w0 w gc h n cap M) {k : Nat} (x : Sl1) (hx : SpAt w x.a x.L) (hr : x.L.length ≤ x.c ∧ x.L.length ≤ 100000) (hl : Lies x.a h gc) :
    FSt w0 (w.setCell ⟨h, k, none⟩ (.slice x.a x.L.length x.c)) gc h n cap (M.set k x) := by
  have hst := (World.ownsRow.stored f.row k (.slice x.a x.L.length x.c)).1
  have hk : Kp (fun j => j = h) w (w.setCell ⟨h, k, none⟩ (.slice x.a x.L.length x.c)) := Kp.setCell (S := fun j => j = h) (p := ⟨h, k, none⟩) (Kp.refl _ _) rfl _
  have hlt := f.lt
  have hmem : ∀ z ∈ M.set k x, z = x ∨ z ∈ M := fun z hz => by
    rcases List.mem_or_eq_of_mem_set hz with h1 | h1
    · exact .inr h1
    · exact .inl h1
  have hsp : ∀ z : Sl1, SpAt w z.a z.L → Lies z.a h gc → SpAt (w.setCell ⟨h, k, none⟩ (.slice x.a x.L.length x.c)) z.a z.L := fun z h1 h2 => by
    refine h1.kp hk fun y hy e => ?_
    rcases h2 with h3 | ⟨b, o, h3, h4, h5⟩
    · rw [h3] at hy; cases hy
    · rw [h3] at hy; cases hy
      exact h4 e
  refine ⟨f.box.kp hk (by omega), ?_, by rw [List.length_set]; exact f.len, fun z hz => ?_, fun z hz => ?_, fun z hz => ?_, f.lt, f.old, f.bel.setCell (p := ⟨h, k, none⟩) ?_ _⟩
  · rw [List.map_set]; exact hst
  · rcases hmem z hz with e | e
    · rw [e]; exact hsp x hx hl
    · exact hsp z (f.inner z e) (f.lies z e)
  · rcases hmem z hz with e | e
    · rw [e]; exact hr
    · exact f.room z e
  · rcases hmem z hz with e | e
    · rw [e]; exact hl
    · exact f.lies z e
  · exact (World.ownsRow.lt f.row h rfl).1

/-- What is left, where it lies. -/
def ATold2 (a : Option Addr) (h g : Nat) (L : List Span) (w : World) (e : Ending) (w' : World) : Prop := w' = w ∧ ∃ x : Sl1, e = .returned (.slice x.a x.L.length x.c) ∧ x.L = L ∧ L.length ≤ x.c ∧ SpAt w x.a L ∧ (Lies a h g → Lies x.a h g)

theorem ahead_any (a : Option Addr) (n c : Nat) (L : List Span) (t : Int) (h g : Nat) (w : World) (hn : L.length = n) (hl : n ≤ 100000) (hc : n ≤ c) (hat : SpAt w a L) (hL : Lies a h g) :
    Calls Tryz.prog 26 #[.slice a n c, .int .i64 t] w fun e w' => ATold2 a h g (ah t L) w e w' := by
  rcases hL with e | ⟨b, o, e, h2, h3⟩
  · subst e
    have hnil : L = [] := by
      cases L with
      | nil => rfl
      | cons s M => obtain ⟨b, o, e⟩ := hat.place (by simp); cases e
    subst hnil
    simp at hn
    subst hn
    refine (ahead_none c t w).mono ?_
    rintro e w' ⟨rfl, rfl⟩
    exact ⟨rfl, ⟨none, c, []⟩, rfl, rfl, Nat.zero_le _, CAt.nil _ _, id⟩
  · subst e
    refine (ahead_some b o n c L t w hn hl hc hat).mono ?_
    rintro e w' ⟨rfl, o', c', rfl, h4, h5⟩
    exact ⟨rfl, ⟨some ⟨b, o', none⟩, c', ah t L⟩, rfl, rfl, h4, h5, fun _ => .inr ⟨b, o', rfl, h2, h3⟩⟩

theorem ah_len (t : Int) (L : List Span) : (ah t L).length ≤ L.length := (List.dropWhile_sublist _).length_le

/-- What the closure leaves. -/
def F1 (w0 : World) (gc h n cap gt gn : Nat) (M : List Sl1) (k : Nat) (t nx : Int) (L : List Span) (e : Ending) (w' : World) : Prop :=
  ∃ x : Sl1, x.L = ah t L ∧ e = .returned (.bool (!(till (ah t L) t).2)) ∧ FSt w0 w' gc h n cap (M.set k x) ∧ One w' gt (.int .i64 t) 2 ∧ One w' gn (.int .i64 (if (till (ah t L) t).2 then min nx (till (ah t L) t).1 else nx)) 2

set_option maxRecDepth 100000 in
set_option maxHeartbeats 2000000 in
theorem fit1_any (w0 : World) (gc h n cap gt gn : Nat) (M : List Sl1) (k : Nat) (t nx : Int) (w : World) (_hn : n ≤ 32) (hk : k < n) (f : FSt w0 w gc h n cap M) (ht : One w gt (.int .i64 t) 2) (hx : One w gn (.int .i64 nx) 2) (hgt : gc < gt) (hgn : gt < gn) (x : Sl1) (hxM : M[k]? = some x) :
    Calls Tryz.prog 25 #[.int .i64 (k : Int), ptr gc, ptr gt, ptr gn] w fun e w' => F1 w0 gc h n cap gt gn M k t nx x.L e w' := by
  have hmem := List.mem_of_getElem? hxM
  have cb := f.box.cell
  have ct := ht.cell
  have cx : w.cell? ⟨h, k, none⟩ = some (.slice x.a x.L.length x.c) := by
    rw [World.ownsRow.cellAt f.row k (by omega), List.getElem?_map, hxM]; rfl
  have fx := World.ownsRow.frozenAt f.row k
  have kA := ahead_any x.a x.L.length x.c x.L t h gc w.drew rfl (f.room x hmem).2 (f.room x hmem).1 ((f.inner x hmem).below (drew_below _)) (f.lies x hmem)
  have hlx := f.lies x hmem
  have hrm := (f.room x hmem).2
  have hal := ah_len t x.L
  have h1 : h < w.heap.size := (World.ownsRow.lt f.row h rfl).2
  have h2 := f.box.lt
  have h3 := ht.lt
  have h4 := hx.lt
  have h5 := f.lt
  have hne1 : h ≠ gc := by omega
  have hne2 : h ≠ gt := by omega
  have hne3 : h ≠ gn := by omega
  replace f := hid f
  replace ht := hid ht
  replace hx := hid hx
  replace hxM := hid hxM
  replace hmem := hid hmem
  replace hlx := hid hlx
  unfold ptr
  generalize x.L.length = xl at *
  generalize x.a = xa at *
  generalize x.c = xc at *
  generalize hL : ah t x.L = L at *
  replace hL := hid hL
  have hput := hid (fun (y : Sl1) (h1 : y.L = L) (h2 : L.length ≤ y.c) (h3 : SpAt w.drew y.a L) (h4 : Lies xa h gc → Lies y.a h gc) => by
    have h5 := (f.out.below (drew_below w)).put (k := k) y (by rw [h1]; exact h3) (by rw [h1]; omega) (h4 hlx.out)
    rw [h1] at h5
    have hk : Kp (fun j => j = h) w.drew (w.drew.setCell ⟨h, k, none⟩ (.slice y.a L.length y.c)) := Kp.setCell (S := fun j => j = h) (p := ⟨h, k, none⟩) (Kp.refl _ _) rfl _
    exact And.intro h5 (And.intro (ht.out.drew.kp hk (by omega)) (hx.out.drew.kp hk (by omega))))
  go_enter Tryz.func25, Tryz.ntmps25
  go_upto_region 1 with fail
  go_cut [5] (fun s5 wx => s5 = .bool false ∧ ∃ y : Sl1, Hid (y.L = L ∧ FSt w0 wx gc h n cap (M.set k y) ∧ One wx gt (.int .i64 t) 2 ∧ One wx gn (.int .i64 nx) 2))
  case first =>
    go_region_with (first | (go_at_call 26; refine kA.mono ?_; rintro e w4 ⟨rfl, y, rfl, hyL, hyc, hyS, hyl⟩))
    all_goals
      have hh := hid (hput.out y hyL hyc hyS hyl)
      go_wp2_with fail
      go_meet
      exact ⟨rfl, y, hid ⟨hyL, hh.out⟩⟩
  case rest =>
    obtain ⟨rfl, y, hy⟩ := hcut
    clear kA hput fx cb ct f ht hx h2 h3 h4
    obtain ⟨hyL, fy, ty, ny⟩ := hy.out
    have hys : (M.set k y)[k]? = some y := by rw [List.getElem?_set_self (by have := fy.len; rw [List.length_set] at this; omega)]
    have cb := fy.box.cell
    have ct := ty.cell
    have cn := ny.cell
    have fn := ny.free
    have cy : wc.cell? ⟨h, k, none⟩ = some (.slice y.a L.length y.c) := by
      rw [World.ownsRow.cellAt fy.row k (by omega), List.getElem?_map, hys, Option.map_some, Sl1.val, hyL]
    have hsy := fy.inner y (List.mem_of_getElem? hys)
    have kT := fun q => till_any y.a L.length y.c L t (wc.drewN q) rfl (by omega) (by rw [← hyL]; exact hsy.below (below_drewN (Below.refl _ _) q))
    have hy2 := hid (show y.L = ah t x.L by rw [hyL, hL.out])
    have fq := hid (fun q => fy.below (below_drewN (Below.refl wc.heap.size wc) q))
    have tq := hid (fun q => ty.below (below_drewN (Below.refl wc.heap.size wc) q))
    have xq := hid (fun q => ny.below (below_drewN (Below.refl wc.heap.size wc) q))
    clear hsy hys hy fy ty ny
    replace hyL := hid hyL
    have hLt := hid hL.out
    cases hb : (till L t).2
    · rw [hb] at kT
      have hfin := hid hb
      clear hb
      generalize (till L t).1 = E at *
      go_wp2_with fail
      go_quiet (first | (go_at_call 27; exact Calls.quiet_of_same (kT _)))
      have f3 := hid (fq.out nq)
      have t3 := hid (tq.out nq)
      have x3 := hid (xq.out nq)
      generalize wc.drewN nq = w3 at *
      go_wp2
      go_ret
      exact ⟨y, hy2.out, by rw [hLt.out, hfin.out]; rfl, f3.out, t3.out, by rw [hLt.out, hfin.out]; exact x3.out⟩
    · rw [hb] at kT
      have hfin := hid hb
      clear hb
      generalize hE : (till L t).1 = E at *
      replace hE := hid hE
      rcases Int.lt_or_le nx E with hm | hm
      · have hmin := hid (show min nx E = nx by omega)
        go_wp2_with fail
        go_quiet (first | (go_at_call 27; exact Calls.quiet_of_same (kT _)))
        have f3 := hid (fq.out nq)
        have t3 := hid (tq.out nq)
        have x3 := hid (xq.out nq)
        have cn3 := x3.out.cell
        have fn3 := x3.out.free
        generalize wc.drewN nq = w3 at *
        go_wp2
        go_ret
        exact ⟨y, hy2.out, by rw [hLt.out, hfin.out]; rfl, f3.out.other (by omega) _, t3.out.kp (kp_one _) (by omega), by rw [hLt.out, hfin.out, if_pos rfl, hE.out, hmin.out]; exact x3.out.set _⟩
      · have hmin := hid (show min nx E = E by omega)
        go_wp2_with fail
        go_quiet (first | (go_at_call 27; exact Calls.quiet_of_same (kT _)))
        have f3 := hid (fq.out nq)
        have t3 := hid (tq.out nq)
        have x3 := hid (xq.out nq)
        have cn3 := x3.out.cell
        have fn3 := x3.out.free
        generalize wc.drewN nq = w3 at *
        go_wp2
        go_ret
        exact ⟨y, hy2.out, by rw [hLt.out, hfin.out]; rfl, f3.out.other (by omega) _, t3.out.kp (kp_one _) (by omega), by rw [hLt.out, hfin.out, if_pos rfl, hE.out, hmin.out]; exact x3.out.set _⟩

end Go.Proofs.YtilncacmkfohdaaGreat.Pf
