/- What Crash does. -/
import Derived.Test.YtpngnmogjmdmhaaSurv
namespace Go.Proofs.Ytpngnmogjmdmhaa
open Go.RowKit

def Dsk.crashE (keep torn : Int) : Int := if keep < 0 ∨ torn < 0 then 2 else 0
def Dsk.crashD (d : Dsk) (keep torn : Int) : Dsk := if keep < 0 ∨ torn < 0 then d else d.crash keep.toNat torn.toNat

/-- The first n files' current bytes are their durable ones. -/
def cpy (f : Fs) (n : Nat) : Fs := fun j => if j % 2 = 1 ∧ j / 2 < n then f (j - 1) else f j

theorem cpy_succ (f : Fs) (n : Nat) : cpy f (n + 1) = upd (cpy f n) (2 * n + 1) (f (2 * n)) := by
  funext j
  unfold upd cpy
  by_cases hj : j = 2 * n + 1
  · subst hj
    rw [if_pos (by omega), if_pos rfl]
    rfl
  · rw [if_neg hj]
    by_cases h : j % 2 = 1 ∧ j / 2 < n
    · rw [if_pos h, if_pos (by omega)]
    · rw [if_neg h, if_neg (by omega)]

theorem cpy_even (f : Fs) (n k : Nat) : cpy f n (2 * k) = f (2 * k) := by
  unfold cpy; rw [if_neg (by omega)]

structure Cp (w wr : World) (p : Nat) (F0 : Nat → Value) (u : Value) (its : List CIt) (f : Fs) (dn : Bool) (arm fail fault : Int) (n : Nat) (F : Nat → Value) : Prop where
  at' : DAt wr p ⟨F, u, its⟩ (cpy f n) dn arm fail fault
  slots : ∀ k, SlotT p F k → SlotT p F0 k ∨ w.heap.size ≤ k
  kp : Kp (SlotT p F0) w wr

theorem cpy_zero (f : Fs) : cpy f 0 = f := by
  funext j; unfold cpy; rw [if_neg (by omega)]

set_option maxRecDepth 100000 in
set_option maxHeartbeats 8000000 in
theorem crash_any (p : Nat) (x : Dx) (d : Dsk) (keep torn : Int) (w : World) (hi : d.Inv) (h : DIs w p x d) (hn : d.ops.length ≤ 1000000) :
    Calls Try.prog 14 #[.pointer (some ⟨p, 0, none⟩), .int .i64 keep, .int .i64 torn] w fun e w' => e = .returned (.int .i64 (Dsk.crashE keep torn)) ∧ Now w w' p x (d.crashD keep torn) := by
  unfold Dsk.crashE Dsk.crashD
  by_cases hbad : keep < 0 ∨ torn < 0
  · rw [if_pos hbad, if_pos hbad]
    by_cases hk : keep < 0
    · have hd : decide (keep < 0) = true := decide_eq_true hk
      clear hbad
      go_enter Try.func14, Try.ntmps14
      go_wp2_with fail
      refine (isone_yes p _ h.1.blk.c0).mono ?_
      rintro e w1 ⟨rfl, rfl⟩
      go_wp2
      go_ret
      exact ⟨rfl, Now.same h (Below.refl _ _)⟩
    · have hd : decide (keep < 0) = false := decide_eq_false hk
      have hd2 : decide (torn < 0) = true := decide_eq_true (hbad.resolve_left hk)
      have ht := hbad.resolve_left hk
      clear hbad
      go_enter Try.func14, Try.ntmps14
      go_wp2_with fail
      refine (isone_yes p _ h.1.blk.c0).mono ?_
      rintro e w1 ⟨rfl, rfl⟩
      go_wp2
      go_ret
      exact ⟨rfl, Now.same h (Below.refl _ _)⟩
  · rw [if_neg hbad, if_neg hbad]
    have hk : ¬ keep < 0 := fun e => hbad (.inl e)
    have ht : ¬ torn < 0 := fun e => hbad (.inr e)
    clear hbad
    have hd : decide (keep < 0) = false := decide_eq_false hk
    have hd2 : decide (torn < 0) = false := decide_eq_false ht
    obtain ⟨kn, rfl⟩ : ∃ n : Nat, keep = n := ⟨keep.toNat, by omega⟩
    obtain ⟨tn, rfl⟩ : ∃ n : Nat, torn = n := ⟨torn.toNat, by omega⟩
    rw [Int.toNat_natCast, Int.toNat_natCast]
    obtain ⟨ca, cap, hv, hcap⟩ := owns_form h.1.row
    have hlen := h.len
    have c8 := h.1.blk.c8
    rw [hv] at c8
    obtain ⟨hl1, hl2⟩ := own_list h.1 hv
    have hsv := surv_any ca x.its.length cap kn tn x.its w rfl hcap (by omega) hl1 h.1.adds
    replace hlen := hid hlen
    replace hv := hid hv
    go_enter Try.func14, Try.ntmps14
    go_wp2_with fail
    refine (isone_yes p _ h.1.blk.c0).mono ?_
    rintro e w1 ⟨rfl, rfl⟩
    go_wp2_with fail
    refine hsv.mono ?_
    rintro e w2 ⟨sb, sm, sc, rfl, hsm, hsat, hsb, hb2⟩
    have h2 := h.1.below hb2
    have hkl : (keeps x.its kn tn).length ≤ 1000001 := by
      have e1 := congrArg List.length (keeps_chs x.its kn tn)
      rw [h.2] at e1
      unfold kept at e1
      have e2 : (chs (keeps x.its kn tn)).length = (keeps x.its kn tn).length := by simp [chs]
      rw [e2] at e1
      split at e1
      · omega
      · rw [e1, List.length_append, List.length_take]
        split <;> simp <;> omega
    have hok : Okay (chs (keeps x.its kn tn)) (fun i => d.six (2 * i)) := by
      rw [keeps_chs, h.2]
      have e : (fun i => d.six (2 * i)) = d.dur := by funext i; exact Dsk.six_dur _ _
      rw [e]
      exact kept_okay hi.okay kn tn
    have hca := carry_any p x d.six d.down d.arm d.fail d.fault sb sm sc (keeps x.its kn tn) w2 hsm.symm (by omega) h2 hsat
      (fun ad e => by
        rcases hsb with h5 | ⟨g, h5, h6, h7⟩
        · obtain ⟨h8, h9⟩ := hl2 ad (h5 ▸ e)
          exact ⟨Nat.lt_of_lt_of_le h8 hb2.size, h9⟩
        · rw [h5] at e
          cases e
          refine ⟨h7, fun hT => ?_⟩
          have := h.1.turn_lt _ (slotT_turn hT)
          simp only at this
          omega)
      (fun i hii => by
        rcases keeps_mem hii with h5 | ⟨j, h5, rfl⟩
        · exact ⟨h2.adds i h5, fun ad e ht => h2.sep _ ⟨i, h5, ad, e, rfl⟩ (slotT_turn ht)⟩
        · exact ⟨cut_add (h2.adds j h5) tn, fun ad e ht => h2.sep _ ⟨j, h5, ad, e, rfl⟩ (slotT_turn ht)⟩) hok
    replace hsm := hid hsm
    go_wp2_with fail
    refine hca.mono ?_
    rintro e w3 ⟨rfl, F0, h3, hs3, k3⟩
    obtain ⟨fk, hfk⟩ : ∃ fk, fk = carried d.six (chs (keeps x.its kn tn)) := ⟨_, rfl⟩
    rw [← hfk] at h3
    have hfl : ∀ i, i < 3 → (fk (2 * i)).length ≤ 1048576 := by
      intro i hi3
      rw [hfk, carried_dur, keeps_chs, h.2]
      have e : (fun i => d.six (2 * i)) = d.dur := by funext i; exact Dsk.six_dur _ _
      rw [e]
      exact (kept_okay hi.okay kn tn).short hi.short i hi3
    replace hfk := hid hfk
    clear hca hsv
    go_wp2_with fail
    go_loopw [27] (fun i wr => ∃ (j : Nat) (F : Nat → Value), j ≤ 3 ∧ i = .int .i64 j ∧ Cp w3 wr p F0 (.slice none 0 0) [] fk d.down d.arm d.fail d.fault j F) (fun i _ => 3 - (intOf i).toNat)
    case atStart => exact ⟨0, F0, Nat.zero_le _, rfl, ⟨by rw [cpy_zero]; exact h3, fun k e => .inl e, Kp.refl _ _⟩⟩
    case round =>
      obtain ⟨j, F, hj, rfl, hC⟩ := hrel
      by_cases hlt : j < 3
      · have hCd := hC.at'
        obtain ⟨a, acap, hv2, _, hat2⟩ := (hCd.six.own (2 * j) (by omega)).form
        simp only at hv2
        rw [cpy_even] at hv2 hat2
        have cF := hCd.blk.cF (2 * j) (by omega)
        simp only at cF
        rw [hv2, show 2 + 2 * j = 2 + j * 2 by omega] at cF
        have hcl := clone_sl a acap (fk (2 * j)).length (fk (2 * j)) wr rfl (by have := hfl j hlt; omega) hat2
        replace hv2 := hid hv2
        replace hC := hid hC
        go_wp2_with (go_at_call 34; refine hcl.mono ?_; rintro e w4 ⟨b4, c4, rfl, ho4, hb4⟩; have h4 := hCd.below hb4; have cF4 := h4.blk.cF (2 * j + 1) (by omega); have fF4 := h4.blk.free (2 + j * 2 + 1); rw [show 2 + (2 * j + 1) = 2 + j * 2 + 1 by omega] at cF4)
        have hk4 : Kp (fun k => (F (2 * j + 1)).ownBlock = some k) wr w4 := Kp.of_below hb4
        have hn4 : ∀ k, (Value.slice b4 (fk (2 * j)).length c4).ownBlock = some k → (F (2 * j + 1)).ownBlock = some k ∨ wr.heap.size ≤ k := fun k e => .inr (ho4.lt k e).1
        obtain ⟨h5, _, _⟩ := slot_step hCd (2 * j + 1) (by omega) rfl hk4 hn4 (ho4.le (Nat.zero_le _))
        obtain ⟨ht5, hk5⟩ := slot_more (p := p) (F := F) (2 * j + 1) (by omega) rfl hk4 hn4
        rw [show 2 + (2 * j + 1) = 2 + j * 2 + 1 by omega] at h5 hk5
        have hzr := hC.out.kp.size
        go_roundw
        case rel =>
          refine ⟨j + 1, upd F (2 * j + 1) (.slice b4 (fk (2 * j)).length c4), by omega, by go_num, ?_, ?_, ?_⟩
          · rw [cpy_succ]; exact h5
          · intro k e
            rcases ht5 k e with h6 | h6
            · exact hC.out.slots k h6
            · exact .inr (by omega)
          · refine hC.out.kp.next hk5 (fun k hk e => ?_)
            rcases hC.out.slots k e with h6 | h6
            · exact h6
            · omega
        case measure => simp [intOf]; omega
      · obtain rfl : j = 3 := by omega
        have hCd := hC.at'
        have c1 := hCd.blk.c1
        have f1 := hCd.blk.free 1
        have hB := hCd.blk.set1 false
        have hkB : Kp (fun k => k = p) wr (wr.setCell ⟨p, 1, none⟩ (.bool false)) := Kp.setCell (S := fun k => k = p) (p := ⟨p, 1, none⟩) (Kp.refl _ _) rfl _
        replace hC := hid hC
        go_wp2_with fail
        refine (disarm_any p true false _ _ _ _ _ _ hB).mono ?_
        rintro e w5 ⟨rfl, hB5, hk5⟩
        obtain ⟨h5, _⟩ := blk_step hCd hB5 (hkB.trans hk5)
        replace h5 := hid h5
        go_wp2
        go_ret
        have hz1 := hb2.size
        have hz2 := k3.size
        have hz3 := hC.out.kp.size
        have hS : ∀ k, SlotT p F k → SlotT p x.F k ∨ w1.heap.size ≤ k := fun k e => by
          rcases hC.out.slots k e with h6 | h6
          · rcases hs3 k h6 with h7 | h7
            · exact .inl h7
            · exact .inr (by omega)
          · exact .inr (by omega)
        refine ⟨rfl, ⟨F, .slice none 0 0, []⟩, ⟨h5.out.ext ?_, rfl⟩, ⟨?_, ?_⟩, ?_⟩
        · intro j hj
          have e : (fun i => d.six (2 * i)) = d.dur := by funext i; exact Dsk.six_dur _ _
          unfold cpy
          rw [hfk.out, keeps_chs, h.2]
          unfold carried Dsk.six Dsk.crash
          simp only
          have e2 : (fun i => d.six (2 * i)) = d.dur := e
          unfold Dsk.six at e2
          rw [e2]
          by_cases hj2 : j % 2 = 0
          · rw [if_neg (by omega), if_pos hj2, if_pos hj2]
          · rw [if_pos (by omega), if_neg hj2, if_pos (by omega), show (j - 1) / 2 = j / 2 by omega]
        · rintro k (e | e | e)
          · exact .inl (.inl e)
          · rcases hS k (.inr e) with h6 | h6
            · exact .inl (slotT_turn h6)
            · exact .inr h6
          · cases e
        · rintro k ⟨i, hii, _⟩
          exact absurd hii (by simp)
        · have ka : Kp (SlotT p x.F) w1 w3 := (Kp.of_below hb2).trans k3
          have kb : Kp (SlotT p x.F) w1 wr := ka.next hC.out.kp (fun k hk e => by
            rcases hs3 k e with h7 | h7
            · exact h7
            · omega)
          exact (kb.trans ((hkB.trans hk5).mono (fun k _ e => .inl e))).mono (fun k _ e => slotT_turn e)
end Go.Proofs.Ytpngnmogjmdmhaa
