/- What carryOut does. -/
import Derived.Test.YtpngnmogjmdmhaaNote
namespace Go.Proofs.Ytpngnmogjmdmhaa
open Go.RowKit

def SlotT (p : Nat) (F : Nat → Value) (k : Nat) : Prop := k = p ∨ ∃ j, j < 6 ∧ (F j).ownBlock = some k

theorem slotT_turn {p : Nat} {x : Dx} {k : Nat} (h : SlotT p x.F k) : Turn p x k := by
  rcases h with h | h
  · exact .inl h
  · exact .inr (.inl h)

theorem slot_more {w0 w1 : World} {p : Nat} {F : Nat → Value} (j : Nat) (hj : j < 6) {v v' : Value} (hv : F j = v)
    (hk1 : Kp (fun k => v.ownBlock = some k) w0 w1) (hn1 : ∀ k, v'.ownBlock = some k → v.ownBlock = some k ∨ w0.heap.size ≤ k) :
    (∀ k, SlotT p (upd F j v') k → SlotT p F k ∨ w0.heap.size ≤ k) ∧ Kp (SlotT p F) w0 (w1.setCell ⟨p, 2 + j, none⟩ v') := by
  subst hv
  refine ⟨?_, (hk1.mono (fun k _ e => .inr ⟨j, hj, e⟩)).trans ((Kp.setCell (S := fun k => k = p) (p := ⟨p, 2 + j, none⟩) (Kp.refl _ _) rfl _).mono (fun k _ e => .inl e))⟩
  rintro k (e | ⟨i, hi, e⟩)
  · exact .inl (.inl e)
  · by_cases hij : i = j
    · subst hij
      rw [upd_same] at e
      rcases hn1 k e with h1 | h1
      · exact .inl (.inr ⟨i, hi, h1⟩)
      · exact .inr h1
    · rw [upd_ne _ _ _ _ hij] at e
      exact .inl (.inr ⟨i, hi, e⟩)

/-- The durable files with these carried out. -/
def carried (f : Fs) (cs : List Ch) : Fs := fun j => if j % 2 = 0 then runs cs (fun i => f (2 * i)) (j / 2) else f j

theorem carried_nil (f : Fs) : carried f [] = f := by
  funext j
  unfold carried runs
  split
  · show f (2 * (j / 2)) = f j
    rw [show 2 * (j / 2) = j by omega]
  · rfl

theorem carried_dur (f : Fs) (cs : List Ch) (i : Nat) : carried f cs (2 * i) = runs cs (fun i => f (2 * i)) i := by
  unfold carried
  rw [if_pos (by omega), show 2 * i / 2 = i by omega]

theorem carried_snoc (f : Fs) (cs : List Ch) (c : Ch) : carried f (cs ++ [c]) = upd (carried f cs) (2 * c.file) (c.on (carried f cs (2 * c.file))) := by
  funext j
  unfold upd
  by_cases hj : j = 2 * c.file
  · subst hj
    rw [if_pos rfl, carried_dur, carried_dur, runs_append]
    simp [runs, apply]
  · rw [if_neg hj]
    unfold carried
    split
    · rw [runs_append]
      simp only [runs, apply]
      rw [if_neg (by omega)]
    · rfl

theorem its_get (its : List CIt) (j k : Nat) (h : j < its.length) (hk : k < 4) : (its.flatMap CIt.cells)[j * 4 + k]? = its[j].cells[k]? := by
  induction its generalizing j with
  | nil => simp at h
  | cons i r ih =>
    rw [List.flatMap_cons]
    cases j with
    | zero =>
      rw [List.getElem?_append_left (by simp [CIt.cells]; omega)]
      simp
    | succ j =>
      rw [List.getElem?_append_right (by simp [CIt.cells]; omega)]
      have := ih j (by simpa using h)
      have e : (j + 1) * 4 + k - i.cells.length = j * 4 + k := by simp [CIt.cells]; omega
      rw [e, this]
      simp

theorem cat_form {w : World} {a : Option Addr} {its : List CIt} (h : CAt w a (its.flatMap CIt.cells)) (hne : its ≠ []) :
    ∃ b o, a = some ⟨b, o, none⟩ ∧ ∀ j (hj : j < its.length), w.cell? ⟨b, o + j * 4, none⟩ = some (.int .i64 (its[j].c.file : Int)) ∧ w.cell? ⟨b, o + j * 4 + 1, none⟩ = some (.bool its[j].c.app) ∧ w.cell? ⟨b, o + j * 4 + 2, none⟩ = some its[j].val ∧ w.cell? ⟨b, o + j * 4 + 3, none⟩ = some (.int .i64 (its[j].c.left : Int)) := by
  have hlen := itsLen its
  have hp : 0 < its.length := List.length_pos_iff.2 hne
  obtain ⟨b, o, rfl, hc⟩ := h (by intro e; rw [e] at hlen; simp at hlen; omega)
  refine ⟨b, o, rfl, fun j hj => ?_⟩
  have key : ∀ k v, k < 4 → its[j].cells[k]? = some v → w.cell? ⟨b, o + (j * 4 + k), none⟩ = some v := by
    intro k v hk hv
    have hlt : j * 4 + k < (its.flatMap CIt.cells).length := by rw [hlen]; omega
    rw [hc _ hlt]
    have := its_get its j k hj hk
    rw [hv, List.getElem?_eq_getElem hlt] at this
    exact this
  exact ⟨key 0 _ (by omega) rfl, key 1 _ (by omega) rfl, key 2 _ (by omega) rfl, key 3 _ (by omega) rfl⟩

/-- Behind so many of them. -/
structure Car (w wr : World) (p : Nat) (x : Dx) (f : Fs) (dn : Bool) (arm fail fault : Int) (cs : List Ch) (F : Nat → Value) : Prop where
  at' : DAt wr p ⟨F, x.u, x.its⟩ (carried f cs) dn arm fail fault
  slots : ∀ k, SlotT p F k → SlotT p x.F k ∨ w.heap.size ≤ k
  kp : Kp (SlotT p x.F) w wr

set_option maxRecDepth 100000 in
set_option maxHeartbeats 8000000 in
theorem carry_any (p : Nat) (x : Dx) (f : Fs) (dn : Bool) (arm fail fault : Int) (ca : Option Addr) (n cap : Nat) (its : List CIt) (w : World) (hn : its.length = n) (hnb : n ≤ 1000001) (h : DAt w p x f dn arm fail fault)
    (hat : CAt w ca (its.flatMap CIt.cells)) (hca : ∀ ad, ca = some ad → ad.block < w.heap.size ∧ ¬ SlotT p x.F ad.block) (hadds : ∀ i ∈ its, AddAt w i ∧ ∀ ad, i.a = some ad → ¬ SlotT p x.F ad.block)
    (hok : Okay (chs its) (fun i => f (2 * i))) :
    Calls Try.prog 35 #[.pointer (some ⟨p, 0, none⟩), .slice ca n cap] w fun e w' => e = .returned (.tuple #[]) ∧ ∃ F, DAt w' p ⟨F, .slice none 0 0, []⟩ (carried f (chs its)) dn arm fail fault ∧ (∀ k, SlotT p F k → SlotT p x.F k ∨ w.heap.size ≤ k) ∧ Kp (SlotT p x.F) w w' := by
  go_enter Try.func35, Try.ntmps35
  go_wp2_with fail
  go_loopw [9] (fun i wr => ∃ (j : Nat) (F : Nat → Value), j ≤ n ∧ i = .int .i64 j ∧ Car w wr p x f dn arm fail fault ((chs its).take j) F) (fun i _ => n - (intOf i).toNat)
  case atStart => exact ⟨0, x.F, Nat.zero_le _, rfl, ⟨by rw [List.take_zero, carried_nil]; exact h, fun k e => .inl e, Kp.refl _ _⟩⟩
  case round =>
    obtain ⟨j, F, hj, rfl, hC⟩ := hrel
    by_cases hlt : j < n
    · obtain ⟨b, o, rfl, hc⟩ := cat_form (hat.kp hC.kp (fun ad e => (hca ad e).2)) (by intro e; subst e; simp at hn; omega)
      obtain ⟨c0, c1, c2, c3⟩ := hc j (by omega)
      have hadd := hadds (its[j]'(by omega)) (List.getElem_mem _)
      have hsn : (chs its).take (j + 1) = (chs its).take j ++ [(its[j]'(by omega)).c] := by
        rw [List.take_succ_eq_append_getElem (by simp [chs]; omega)]; simp [chs]
      have hoki : (its[j]'(by omega)).c.file < 3 ∧ ((its[j]'(by omega)).c.app = false → (its[j]'(by omega)).c.left ≤ (carried f ((chs its).take j) (2 * (its[j]'(by omega)).c.file)).length) ∧ ((its[j]'(by omega)).c.on (carried f ((chs its).take j) (2 * (its[j]'(by omega)).c.file))).length ≤ 1048576 := by
        have := hok.take (j + 1)
        rw [hsn, okay_append] at this
        rw [carried_dur]
        exact this.2.1
      clear hc
      generalize its[j]'(by omega) = i at *
      obtain ⟨hf, hcut, hlen⟩ := hoki
      unfold CIt.val at c2
      have hg : CBlk (wr.alloc (.cells #[.int .i64 (i.c.file : Int), .bool i.c.app, .slice i.a i.c.data.length i.cap, .int .i64 (i.c.left : Int)] 79)) wr.heap.size i := heap_alloc_new wr _
      have hb0 := below_lit wr (.cells #[.int .i64 (i.c.file : Int), .bool i.c.app, .slice i.a i.c.data.length i.cap, .int .i64 (i.c.left : Int)] 79)
      have y0 := hg.c0
      have hzr := hC.kp.size
      obtain ⟨fk, hfk⟩ : ∃ fk, fk = carried f ((chs its).take j) := ⟨_, rfl⟩
      rw [← hfk] at hcut hlen
      have hCd := hC.at'
      rw [← hfk] at hCd
      obtain ⟨a, acap, hv, _, _⟩ := (hCd.six.own (2 * i.c.file) (by omega)).form
      simp only at hv
      replace hC := hid hC
      replace hsn := hid hsn
      replace hfk := hid hfk
      replace hn := hid hn
      go_wp2_with fail
      go_quiet (fail)
      obtain ⟨w0, hw0⟩ : ∃ w0, w0 = (wr.alloc (.cells #[.int .i64 (i.c.file : Int), .bool i.c.app, .slice i.a i.c.data.length i.cap, .int .i64 (i.c.left : Int)] 79)).drewN nq := ⟨_, rfl⟩
      rw [← hw0]
      have hb1 : Below wr.heap.size wr w0 := hb0.trans (by rw [hw0]; exact below_drewN (Below.refl _ _) _)
      obtain ⟨g, hge⟩ : ∃ g, g = wr.heap.size := ⟨_, rfl⟩
      have hgg : CBlk w0 g i := by rw [hge, hw0]; exact hg
      rw [← hge]
      replace hge := hid hge
      clear hg hb0 y0 hw0 c0 c1 c2 c3
      have h1 := hCd.below hb1
      have c0 := hgg.c0
      have c1 := hgg.c1
      have c2 := hgg.c2
      have c3 := hgg.c3
      have cF := h1.blk.cF (2 * i.c.file) (by omega)
      simp only at cF
      rw [hv, show 2 + (2 * i.c.file) = 2 + i.c.file * 2 by omega] at cF
      have hown := h1.six.own (2 * i.c.file) (by omega)
      simp only at hown
      rw [hv] at hown
      have hai : At w0 i.a i.c.data := (hadd.1.1.1.kp hC.out.kp hadd.2).below hb1
      have hap := applied_any i a (fk (2 * i.c.file)).length acap (fk (2 * i.c.file)) w0.drew rfl hown hai hcut hlen
      unfold CIt.agg at hap
      have hpn : ¬ (Value.slice a (fk (2 * i.c.file)).length acap).ownBlock = some p := fun e => h1.blk.ne_own hown p e rfl
      go_wp2_with fail
      go_region_with (go_at_call 52; refine hap.mono ?_; rintro e w1 ⟨b1, m, c, rfl, hm, ho1, hk1, hn1⟩; have hB1 := DBlk.kp (w := w0.drew) h1.blk hk1 hpn; have cF1 := hB1.cF (2 * i.c.file) (by omega); have fF1 := hB1.free (2 + i.c.file * 2); simp only at cF1; rw [hv, show 2 + (2 * i.c.file) = 2 + i.c.file * 2 by omega] at cF1)
      all_goals
        subst hm
        obtain ⟨h2, _, _⟩ := slot_step (h1.below (drew_below w0)) (2 * i.c.file) (by omega) hv hk1 hn1 ho1
        obtain ⟨ht2, hk2⟩ := slot_more (p := p) (F := F) (2 * i.c.file) (by omega) hv hk1 hn1
        have e2 : 2 + 2 * i.c.file = 2 + i.c.file * 2 := by omega
        rw [e2] at h2 hk2
        have hz0 : wr.heap.size ≤ w0.drew.heap.size := hb1.size
        have hrel : Car w (w1.setCell ⟨p, 2 + i.c.file * 2, none⟩ (.slice b1 (i.c.on (fk (2 * i.c.file))).length c)) p x f dn arm fail fault ((chs its).take (j + 1)) (upd F (2 * i.c.file) (.slice b1 (i.c.on (fk (2 * i.c.file))).length c)) := by
          refine ⟨?_, ?_, ?_⟩
          · rw [hsn.out, carried_snoc, ← hfk.out]
            exact h2
          · intro k e
            rcases ht2 k e with h4 | h4
            · exact hC.out.slots k h4
            · exact .inr (by omega)
          · refine (hC.out.kp.then (bnext hb1 (drew_below w0))).next hk2 (fun k hk e => ?_)
            rcases hC.out.slots k e with h4 | h4
            · exact h4
            · omega
        replace hrel := hid hrel
        go_wp2
        go_roundw
        case rel => exact ⟨j + 1, _, by omega, by go_num, hrel.out⟩
        case measure => simp [intOf]; omega
    · obtain rfl : j = n := by omega
      rw [List.take_of_length_le (by simp [chs]; omega)] at hC
      have hCd := hC.at'
      have c8 := hCd.blk.c8
      have f8 := hCd.blk.free 8
      obtain ⟨h5, ht5, hk5⟩ := row_step hCd (Kp.refl _ _) (v' := .slice none 0 0) (its' := []) (fun k e => by cases e) (World.ownsRow_nil _ 0 79 4) (fun i hi => absurd hi (by simp)) (fun i hi => absurd hi (by simp))
      have hks : Kp (SlotT p x.F) w (wr.setCell ⟨p, 8, none⟩ (.slice none 0 0)) := hC.kp.trans (Kp.setCell (S := SlotT p x.F) (p := ⟨p, 8, none⟩) (Kp.refl _ _) (.inl rfl) _)
      have hsl := hC.slots
      clear hC
      replace h5 := hid h5
      go_wp2
      go_end0
      exact ⟨rfl, F, h5.out, hsl, hks⟩
end Go.Proofs.Ytpngnmogjmdmhaa
