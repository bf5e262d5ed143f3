/- Profiles in memory: slices of cuts in a slice; whether a profile is right; sets of one node; windows. -/
import Derived.Test.YtilncacmkfohdaaGreatPfSame
import Derived.Test.YtilncacmkfohdaaGreatPfNdFirst
import Derived.Test.YtilncacmkfohdaaGreatPfPl
namespace Go.Proofs.YtilncacmkfohdaaGreat.Pf
open Go.RowKit

/-- A slice of cuts: where it lies, its room, its cuts. -/
structure Nd1 where
  a : Option Addr
  c : Nat
  C : List Cut
def Nd1.val (x : Nd1) : Value := .slice x.a x.C.length x.c
def cutsOf (L : List Nd1) : List (List Cut) := L.map (·.C)

/-- These slices of cuts lie behind a. -/
structure PAt (w : World) (a : Option Addr) (L : List Nd1) : Prop where
  row : CAt w a (L.map Nd1.val)
  each : ∀ x ∈ L, SAt w x.a x.C

theorem PAt.below {w w' : World} {a : Option Addr} {L : List Nd1} (h : PAt w a L) (hb : Below w.heap.size w w') : PAt w' a L := ⟨h.row.below hb, fun x hx => (h.each x hx).below hb⟩
theorem PAt.nil (w : World) (a : Option Addr) : PAt w a [] := ⟨CAt.nil w a, fun x h => by cases h⟩
theorem PAt.place {w : World} {a : Option Addr} {L : List Nd1} (h : PAt w a L) (h0 : 0 < L.length) : ∃ b o, a = some ⟨b, o, none⟩ := by
  obtain ⟨b, o, e, _⟩ := h.row (by intro e; rw [List.map_eq_nil_iff] at e; subst e; cases h0)
  exact ⟨b, o, e⟩
theorem PAt.one {w : World} {b o : Nat} {L : List Nd1} (h : PAt w (some ⟨b, o, none⟩) L) {i : Nat} (hi : i < L.length) : w.cell? ⟨b, o + i, none⟩ = some (.slice L[i].a L[i].C.length L[i].c) := by
  obtain ⟨b', o', e, hc⟩ := h.row (by intro e; rw [List.map_eq_nil_iff] at e; subst e; cases hi)
  cases e
  have := hc i (by simpa using hi)
  rw [this]
  simp [Nd1.val]

/-- A row of the call's own, of slices of cuts of the call's own. -/
structure POwn (w : World) (base : Nat) (v : Value) (L : List Nd1) : Prop where
  own : w.ownsRow base 59 1 v L.length (L.map Nd1.val)
  inner : ∀ x ∈ L, SOwn w base (.slice x.a x.C.length x.c) x.C
  off : ∀ x ∈ L, ∀ y, x.a = some y → v.ownBlock ≠ some y.block

theorem POwn.nil (w : World) (base : Nat) : POwn w base (.slice none 0 0) [] := ⟨World.ownsRow_nil _ _ _ _, (fun x h => by cases h), (fun x h => by cases h)⟩
theorem POwn.below {w w' : World} {base : Nat} {v : Value} {L : List Nd1} (h : POwn w base v L) (hb : Below w.heap.size w w') : POwn w' base v L := ⟨owns_below h.own hb, fun x hx => (h.inner x hx).below hb, h.off⟩
theorem POwn.pat {w : World} {base n c : Nat} {a : Option Addr} {L : List Nd1} (h : POwn w base (.slice a n c) L) : PAt w a L := ⟨owns_cat h.own, fun x hx => (h.inner x hx).sat⟩
theorem POwn.low {w : World} {base base' : Nat} {v : Value} {L : List Nd1} (h : POwn w base v L) (hb : base' ≤ base) : POwn w base' v L := ⟨owns_low h.own hb, fun x hx => (h.inner x hx).low hb, h.off⟩

theorem owns_blk {w : World} {base e size n m c : Nat} {y : Addr} {xs : List Value} (h : w.ownsRow base e size (.slice (some y) m c) n xs) : base ≤ y.block ∧ y.block < w.heap.size := by
  rcases h.2 with ⟨hv, _⟩ | ⟨g, cap, cur, hv, hb, hg, _⟩
  · simp at hv
  · simp only [Value.slice.injEq, Option.some.injEq] at hv
    rw [hv.1]
    exact ⟨hb, (Array.getElem?_eq_some_iff.1 hg).1⟩

theorem owns_lt {w : World} {base e size n g : Nat} {v : Value} {xs : List Value} (h : w.ownsRow base e size v n xs) (hg : v.ownBlock = some g) : g < w.heap.size := by
  obtain ⟨a, c, rfl, _⟩ := owns_form h
  cases a with
  | none => simp [Value.ownBlock] at hg
  | some y => simp [Value.ownBlock] at hg; rw [← hg]; exact (owns_blk h).2

theorem ownBlock_some (y : Addr) (n c : Nat) : (Value.slice (some y) n c).ownBlock = some y.block := rfl

/-- One slice more at the end of a row: what 'append' leaves. -/
theorem POwn.more {w w1 : World} {base : Nat} {v v' : Value} {L : List Nd1} {x : Nd1} (h : POwn w base v L) (hx : SOwn w base (.slice x.a x.C.length x.c) x.C) (hoff : ∀ y, x.a = some y → v.ownBlock ≠ some y.block)
    (hg : w.grownBy w1 v.ownBlock) (ho : w1.ownsRow base 59 1 v' (L.length + 1) (L.map Nd1.val ++ [x.val])) (hv : v'.ownBlock = v.ownBlock ∨ v'.ownBlock = some w.heap.size) : POwn w1 base v' (L ++ [x]) := by
  have kg := Kp.grown hg
  have all : ∀ z ∈ L ++ [x], SOwn w base (.slice z.a z.C.length z.c) z.C ∧ (∀ y, z.a = some y → v.ownBlock ≠ some y.block) := by
    intro z hz
    rcases List.mem_append.1 hz with h1 | h1
    · exact ⟨h.inner z h1, h.off z h1⟩
    · rw [List.mem_singleton.1 h1]; exact ⟨hx, hoff⟩
  refine ⟨?_, fun z hz => ?_, fun z hz y hy => ?_⟩
  · simpa using ho
  · obtain ⟨h1, h2⟩ := all z hz
    refine owns_kp h1 kg fun k hk hs => ?_
    cases ha : z.a with
    | none => rw [ha] at hk; simp [Value.ownBlock] at hk
    | some y =>
      rw [ha, ownBlock_some] at hk
      exact h2 y ha (by rw [hs, ← hk])
  · obtain ⟨h1, h2⟩ := all z hz
    rcases hv with e | e
    · rw [e]; exact h2 y hy
    · rw [e]
      intro he
      rw [hy] at h1
      have := (owns_blk h1).2
      simp only [Option.some.injEq] at he
      omega

/-- What was made behind w lies off every row of w. -/
theorem new_off {w w' : World} {base e size n : Nat} {v : Value} {xs : List Value} {a : Option Addr} {m c : Nat} {C : List Cut} (h : w.ownsRow base e size v n xs) (hx : SOwn w' w.heap.size (.slice a m c) C) : ∀ y, a = some y → v.ownBlock ≠ some y.block := by
  intro y hy he
  subst hy
  have h1 := owns_lt h he
  have h2 := (owns_blk hx).1
  omega

theorem info38 : (Tryz.prog.info? 59).map (fun i => (i.zero, i.size, i.bytes)) = some (some (.slice none 0 0), 1, 24) := by kernel_rfl

theorem slice_one (a : Option Addr) (n c : Nat) : ∀ u ∈ [Value.slice a n c], u.oneCell' = true := by
  intro u hu
  rw [List.mem_singleton.1 hu]; rfl

/-- A right profile. -/
abbrev RightPr (P : List (List Cut)) : Prop := 0 < P.length ∧ P.length ≤ 32 ∧ ∀ C ∈ P, RightP C
def rightPB (P : List (List Cut)) : Bool := decide (RightPr P)
theorem rightPB_iff {P : List (List Cut)} : rightPB P = true ↔ RightPr P := by simp [rightPB]
theorem rightPB_no {P : List (List Cut)} (h : ¬ RightPr P) : rightPB P = false := decide_eq_false h

def RightTo (L : List Nd1) (j : Nat) : Prop := ∀ x ∈ L.take j, RightP x.C

theorem RightTo.next {L : List Nd1} {j : Nat} (h : RightTo L j) (hj : j < L.length) (k : RightP L[j].C) : RightTo L (j + 1) := by
  intro x hx
  rw [List.take_add_one, List.getElem?_eq_getElem hj] at hx
  rcases List.mem_append.1 hx with h1 | h1
  · exact h x h1
  · simp at h1; rw [h1]; exact k

set_option maxHeartbeats 800000 in
theorem pright_any (a : Option Addr) (n c : Nat) (L : List Nd1) (w : World) (hn : L.length = n) (hl : n ≤ 4611686018427387904) (hs : ∀ x ∈ L, x.C.length ≤ 4611686018427387904) (hat : PAt w a L) :
    Calls Tryz.prog 21 #[.slice a n c] w fun e w' => e = .returned (.bool (rightPB (cutsOf L))) ∧ Below w.heap.size w w' := by
  have hcl : (cutsOf L).length = L.length := by simp [cutsOf]
  replace hn := hid hn
  replace hat := hid hat
  replace hs := hid hs
  rcases Nat.lt_or_ge n 1 with h0 | h0
  · have hf := hid (show rightPB (cutsOf L) = false from rightPB_no fun h => by have := h.1; rw [hcl, hn.out] at this; omega)
    have d0 : decide ((n : Int) < 1) = true := decide_eq_true (by omega)
    replace hcl := hid hcl
    go_enter Tryz.func21, Tryz.ntmps21
    go_wp2
    go_ret
    rw [hf.out]; exact ⟨rfl, Below.refl _ _⟩
  · have d0 : decide ((n : Int) < 1) = false := decide_eq_false (by omega)
    rcases Nat.lt_or_ge 32 n with h1 | h1
    · have hf := hid (show rightPB (cutsOf L) = false from rightPB_no fun h => by have := h.2.1; rw [hcl, hn.out] at this; omega)
      have d1 : decide ((32 : Int) < (n : Int)) = true := decide_eq_true (by omega)
      replace hcl := hid hcl
      go_enter Tryz.func21, Tryz.ntmps21
      go_wp2
      go_ret
      rw [hf.out]; exact ⟨rfl, Below.refl _ _⟩
    · have d1 : decide ((32 : Int) < (n : Int)) = false := decide_eq_false (by omega)
      replace hcl := hid hcl
      obtain ⟨b, o, e⟩ := hat.out.place (by rw [hn.out]; exact h0)
      subst e
      go_enter Tryz.func21, Tryz.ntmps21
      go_wp2_with fail
      go_loopw [14] (fun i wr => ∃ j : Nat, j ≤ n ∧ i = .int .i64 (j : Int) ∧ Hid (RightTo L j) ∧ Below w.heap.size w wr) (fun i _ => n - (intOf i).toNat)
      case atStart => exact ⟨0, Nat.zero_le _, rfl, hid (fun x hx => by simp at hx), Below.refl _ _⟩
      case round =>
        obtain ⟨j, hj, rfl, hok, hb⟩ := hrel
        by_cases hlt : j < n
        · have hjL : j < L.length := by rw [hn.out]; exact hlt
          have y0 := (hat.out.below hb).one hjL
          have kR := fun w' (h : Below wr.heap.size wr w') => right_any L[j].a L[j].C.length L[j].c L[j].C w' rfl (hs.out _ (List.getElem_mem hjL)) ((((hat.out.below hb).each _ (List.getElem_mem hjL))).below h)
          by_cases h2 : RightP L[j].C
          · rw [rightB_iff.2 h2] at kR
            have hok2 := hid (hok.out.next hjL h2)
            replace h2 := hid h2
            generalize L[j].a = la at *
            generalize L[j].c = lc at *
            generalize L[j].C.length = ll at *
            go_wp2_with fail
            refine (kR _ (Below.refl _ _)).mono ?_
            rintro e w1 ⟨rfl, hb1⟩
            have hb2 := bnext hb hb1
            go_wp2_with fail
            go_roundw
            case rel => exact ⟨j + 1, by omega, by go_num, hok2, hb2⟩
            case measure => simp [intOf]; omega
          · have hf := hid (show rightPB (cutsOf L) = false from rightPB_no fun h => h2 (h.2.2 _ (List.mem_map.2 ⟨_, List.getElem_mem hjL, rfl⟩)))
            rw [rightB_false h2] at kR
            replace h2 := hid h2
            generalize L[j].a = la at *
            generalize L[j].c = lc at *
            generalize L[j].C.length = ll at *
            go_wp2_with fail
            refine (kR _ (Below.refl _ _)).mono ?_
            rintro e w1 ⟨rfl, hb1⟩
            have hb2 := bnext hb hb1
            go_wp2
            go_ret
            rw [hf.out]; exact ⟨rfl, hb2⟩
        · have hje : j = n := by omega
          subst hje
          have hf := hid (show rightPB (cutsOf L) = true from rightPB_iff.2 ⟨by rw [hcl.out, hn.out]; exact h0, by rw [hcl.out, hn.out]; exact h1, fun C hC => by
            obtain ⟨x, hx, rfl⟩ := List.mem_map.1 hC
            exact hok.out x (by rw [← hn.out, List.take_length]; exact hx)⟩)
          go_wp2
          go_ret
          rw [hf.out]; exact ⟨rfl, hb⟩

theorem pwindow_any (a b : Int) (w : World) : Calls Tryz.prog 47 #[.int .i64 a, .int .i64 b] w fun e w' => e = .returned (.bool (winB a b)) ∧ w' = w := by
  by_cases h1 : 0 ≤ a
  · have d1 : decide (0 ≤ a) = true := by simpa using h1
    by_cases h2 : a < b
    · have d2 : decide (a < b) = true := by simpa using h2
      by_cases h3 : b ≤ 2199023255552
      · have hf := hid (show winB a b = true from decide_eq_true ⟨h1, h2, h3⟩)
        have d3 : decide (b ≤ 2199023255552) = true := by simpa using h3
        go_enter Tryz.func47, Tryz.ntmps47
        go_wp2
        go_ret
        rw [hf.out]; exact ⟨rfl, rfl⟩
      · have hf := hid (show winB a b = false from decide_eq_false fun h => h3 h.2.2)
        have d3 : decide (b ≤ 2199023255552) = false := by simpa using h3
        go_enter Tryz.func47, Tryz.ntmps47
        go_wp2
        go_ret
        rw [hf.out]; exact ⟨rfl, rfl⟩
    · have hf := hid (show winB a b = false from decide_eq_false fun h => h2 h.2.1)
      have d2 : decide (a < b) = false := by simpa using h2
      go_enter Tryz.func47, Tryz.ntmps47
      go_wp2
      go_ret
      rw [hf.out]; exact ⟨rfl, rfl⟩
  · have hf := hid (show winB a b = false from decide_eq_false fun h => h1 h.1)
    have d1 : decide (0 ≤ a) = false := by simpa using h1
    go_enter Tryz.func47, Tryz.ntmps47
    go_wp2
    go_ret
    rw [hf.out]; exact ⟨rfl, rfl⟩

theorem ponly_any (n : Nat) (hn : n < 32) (w : World) : Calls Tryz.prog 50 #[.int .i64 (n : Int)] w fun e w' => e = .returned (.int .u32 ((2 ^ n : Nat) : Int)) ∧ w' = w := by
  have hp := Nd.pow_lt32 hn
  go_enter Tryz.func50, Tryz.ntmps50
  go_wp2
  go_ret
  refine ⟨ret_int ?_, rfl⟩
  have h2 : ((2 ^ n : Nat) : Int) = 2 ^ n := by push_cast; rfl
  rw [← h2]
  generalize 2 ^ n = x at hp
  omega

theorem phas_any (s n : Nat) (hs : s < 4294967296) (hn : n < 32) (w : World) : Calls Tryz.prog 49 #[.int .u32 (s : Int), .int .i64 (n : Int)] w fun e w' => e = .returned (.bool (s.testBit n)) ∧ w' = w := by
  go_enter Tryz.func49, Tryz.ntmps49
  go_wp2_with (go_at_call 50; refine (ponly_any n hn _).mono ?_; rintro e w' ⟨rfl, rfl⟩)
  go_ret
  exact ⟨ret_bool (Nd.bit_and s n hs hn), rfl⟩

end Go.Proofs.YtilncacmkfohdaaGreat.Pf
