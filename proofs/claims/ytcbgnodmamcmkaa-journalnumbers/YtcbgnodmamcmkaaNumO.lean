/- Open upon the disks of JournalNumbers. -/
import Derived.Test.YtcbgnodmamcmkaaNumC
namespace Go.Proofs.Ytcbgnodmamcmkaa
open Go.RowKit

/-- What Open leaves where it answers a journal. -/
structure ON (base : Nat) (w w' : World) (p : Nat) (x x' : Dx) (d : Dsk) (gj l f : Nat) (body : List UInt8) (sa : Option Addr) : Prop where
  disk : Sole base w' p x' d
  jw : JW base w' gj p x' l l f false
  fresh : w.heap.size ≤ gj
  body : At w' sa body
  grow : Grow w p x x'
  kp : Kp (Turn p x) w w'
  bel : Below base w w'

theorem OpenAt.on {base : Nat} {w w' : World} {p : Nat} {x x' : Dx} {l body : List UInt8} {d d' : Dsk} {M SF BN n Lst gj : Nat} {ps : List Nat} {sa : Option Addr} {sc : Nat} {v : Value} (h : OpenAt base w w' p x x' l body d' M SF BN n Lst gj ps sa sc v) (hs : Sole base w p x d) (hbase : base ≤ w.heap.size) : ON base w w' p x x' d' gj Lst SF body sa :=
  ⟨h.jr.disk, h.jr.w (Nat.le_trans hbase h.fresh), h.fresh, h.own.at, h.grow, h.kp, h.kp.below hs.turn hbase⟩

def eA : List UInt8 := entB 1 7 [97]
def eS : List UInt8 := entB 1 255 [115]
def eD : List UInt8 := entB 2 8 [100]
def eZ : List UInt8 := entB 2 255 [122]
def eG : List UInt8 := entB 3 0 []
theorem eD_poss : poss eD 19 0 0 = [0] := by decide +kernel
theorem eG_poss : poss eG 18 0 0 = [0] := by decide +kernel
theorem eG_four : poss eG 18 0 4 = [] := by decide +kernel

/-- Nothing there. -/
theorem open_a (base p : Nat) (x : Dx) (d : Dsk) (n : Nat) (w : World) (hs : Sole base w p x d) (hbase : base ≤ w.heap.size) (hc : Clm d (fun _ => []) n) :
    Calls Try.prog 12 #[.pointer (some ⟨p, 0, none⟩)] w fun e w' => ∃ (gj : Nat) (sa : Option Addr) (sc : Nat) (v : Value) (x' : Dx), e = .returned (.tuple #[.pointer (some ⟨gj, 0, none⟩), .slice sa 0 sc, v, .int .i64 0]) ∧ ON base w w' p x x' d gj 0 2 [] sa := by
  have h0 : stAt d 2 = none := stAt_none (by rw [hc.cur]) (by rw [hc.cur])
  have hn : opNum d = 0 := by unfold opNum; rw [h0]
  refine (open_empty_no base p x d w 0 2 0 0 [] hs hc.free.1 hn.symm (by unfold opFile; rw [h0]; rfl) (by unfold opBody; rw [h0]) rfl (by rw [hc.cur]; rfl) (by unfold opPs; rw [hc.cur]; decide +kernel) (by decide)).mono ?_
  rintro e w' ⟨gj, sa, sc, v, x', rfl, h⟩
  exact ⟨gj, sa, sc, v, x', rfl, h.on hs hbase⟩

/-- A state and a record behind it. -/
theorem open_b (base p : Nat) (x : Dx) (d : Dsk) (F : Fs) (n : Nat) (w : World) (hs : Sole base w p x d) (hbase : base ≤ w.heap.size) (hc : Clm d F n) (h0 : F 0 = eD) (h1 : F 1 = eS) (h2 : F 2 = []) :
    Calls Try.prog 12 #[.pointer (some ⟨p, 0, none⟩)] w fun e w' => ∃ (gj : Nat) (sa : Option Addr) (sc : Nat) (rs : List Rm) (ra : Option Addr) (rc : Nat) (x' : Dx), e = .returned (.tuple #[.pointer (some ⟨gj, 0, none⟩), .slice sa 1 sc, .slice ra 1 rc, .int .i64 0]) ∧ rs.length = 1 ∧ RAt w' ra rs ∧ rs.map Rm.plain = [(2, 8, [100])] ∧ ON base w w' p x x' d gj 2 1 [115] sa := by
  have e1 : stAt d 1 = some 1 := stAt_take (j := 0) (by rw [hc.cur, Nat.zero_add, h1]; exact isstate_ent 1 [115] (by decide) (by decide)) (fun f hf => by cases hf)
  have e2 : stAt d 2 = some 1 := (stAt_leave (j := 1) (by show ¬ IsState (d.cur 2); rw [hc.cur, h2]; exact state_nil)).trans e1
  have c0 : d.cur 0 = eD := by rw [hc.cur]; exact h0
  have c1 : d.cur 1 = eS := by rw [hc.cur]; exact h1
  have hp : opPs d = [0] := by unfold opPs; rw [c0]; exact eD_poss
  refine (open_good_no base p x d w 1 1 1 18 1 18 2 2 [115] hs hc.free.1 (by unfold opNum; rw [e2]; show _ = numAt (d.cur 1) 0; rw [c1]; exact (num_ent 1 [115] (by decide)).symm) (by unfold opFile; rw [e2]; rfl) (by unfold opBody; rw [e2]; show _ = bodyAt (d.cur 1) 0; rw [c1]; exact (body_ent 1 [115] (by decide)).symm) rfl (by rw [c0]; decide +kernel) (by rw [hp]; rfl) (by rw [c0, hp]; decide +kernel) (by decide) (by decide) (fun h => by simp only [hp, c0]; show 2 = numAt eD 0; decide +kernel) (fun h => by simp only [hp, c0]; show 2 = numAt eD 0; decide +kernel) (by decide) (by decide) (by decide)).mono ?_
  rintro e w' ⟨gj, sa, sc, v, x', rfl, h⟩
  rw [hp, c0] at h
  obtain ⟨rs, ra, rc, rfl, _, hr, hpl⟩ := recs_some (all := [(0, []), (8, [100])]) (a := 1) (m := 2) (z := []) (by decide) (by decide) (by decide) (by decide) (by decide) (by decide +kernel) (by decide +kernel) (show OpenAt base w w' p x x' eD [115] d 1 1 1 1 2 gj (logP 0 (seg [(0, []), (8, [100])] 1 2)) sa sc _ from h)
  have hl : rs.length = 1 := by have := congrArg List.length hpl; simpa [seg, plainL] using this
  refine ⟨gj, sa, sc, rs, ra, rc, x', by rw [hl], hl, hr, hpl, h.on hs hbase⟩

/-- Two states, the second file's no newer. -/
theorem open_c (base p : Nat) (x : Dx) (d : Dsk) (F : Fs) (n : Nat) (Z : List UInt8) (w : World) (hs : Sole base w p x d) (hbase : base ≤ w.heap.size) (hc : Clm d F n) (h0 : F 0 = []) (h1 : F 1 = eZ) (h2 : F 2 = entB 2 255 Z) :
    Calls Try.prog 12 #[.pointer (some ⟨p, 0, none⟩)] w fun e w' => ∃ (gj : Nat) (sa : Option Addr) (sc : Nat) (v : Value) (x' : Dx), e = .returned (.tuple #[.pointer (some ⟨gj, 0, none⟩), .slice sa 1 sc, v, .int .i64 0]) ∧ ON base w w' p x x' d gj 2 1 [122] sa := by
  have c0 : d.cur 0 = [] := by rw [hc.cur]; exact h0
  have c1 : d.cur 1 = eZ := by rw [hc.cur]; exact h1
  have c2 : d.cur 2 = entB 2 255 Z := by rw [hc.cur]; exact h2
  have n1 : numAt (d.cur 1) 0 = 2 := by rw [c1]; exact num_ent 2 [122] (by decide)
  have n2 : numAt (d.cur 2) 0 = 2 := by rw [c2]; exact num_ent 2 Z (by decide)
  have e1 : stAt d 1 = some 1 := stAt_take (j := 0) (by show IsState (d.cur 1); rw [c1]; exact isstate_ent 2 [122] (by decide) (by decide)) (fun f hf => by cases hf)
  have e2 : stAt d 2 = some 1 := (stAt_old (j := 1) e1 (by show ¬ _ < numAt (d.cur 2) 0; rw [n1, n2]; decide)).trans e1
  refine (open_empty_no base p x d w 2 1 1 0 [122] hs hc.free.1 (by unfold opNum; rw [e2]; exact n1.symm) (by unfold opFile; rw [e2]; rfl) (by unfold opBody; rw [e2]; show _ = bodyAt (d.cur 1) 0; rw [c1]; exact (body_ent 2 [122] (by decide)).symm) rfl (by rw [c0]; rfl) (by unfold opPs; rw [c0]; decide +kernel) (by decide)).mono ?_
  rintro e w' ⟨gj, sa, sc, v, x', rfl, h⟩
  exact ⟨gj, sa, sc, v, x', rfl, h.on hs hbase⟩

/-- A gap. -/
theorem open_g (base p : Nat) (x : Dx) (d : Dsk) (F : Fs) (n : Nat) (w : World) (hs : Sole base w p x d) (hc : Clm d F n) (h0 : F 0 = eG) (h1 : F 1 = []) (h2 : F 2 = []) :
    Calls Try.prog 12 #[.pointer (some ⟨p, 0, none⟩)] w fun e w' => e = .returned (.tuple #[.pointer none, .slice none 0 0, .slice none 0 0, .int .i64 70]) ∧ Below w.heap.size w w' := by
  have e0 : stAt d 2 = none := stAt_none (by rw [hc.cur, h1]) (by rw [hc.cur, h2])
  have c0 : d.cur 0 = eG := by rw [hc.cur]; exact h0
  have hp : opPs d = [0] := by unfold opPs; rw [c0]; exact eG_poss
  exact open_bad base p x d w 0 2 0 17 1 17 3 [] hs hc.free.1 (by unfold opNum; rw [e0]) (by unfold opFile; rw [e0]; rfl) (by unfold opBody; rw [e0]) rfl (by rw [c0]; decide +kernel) (by rw [hp]; rfl) (by rw [c0, hp]; decide +kernel) (by decide) (by decide) (fun h => by simp only [hp, c0]; show 3 = numAt eG 0; decide +kernel) (by decide)
end Go.Proofs.Ytcbgnodmamcmkaa
