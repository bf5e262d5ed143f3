/- ProfileBack, walked. -/
import Derived.Test.YticlpjpbjgfgmaaBack
import Derived.Deep.DeepCutAuto
namespace Go.Proofs.Yticlpjpbjgfgmaa
open Go.RowKit

/-- Nodes, cores, a time, in a block. -/
def XBlk (w : World) (g : Nat) (on : Nat) (c p q : Int) : Prop := w.heap[g]? = some (.cells #[.int .u32 (on : Int), .int .i64 c, .int .i64 p, .int .i64 q] 27 (0, 0))
theorem XBlk.new (w : World) (on : Nat) (c p q : Int) : XBlk (w.alloc (.cells #[.int .u32 (on : Int), .int .i64 c, .int .i64 p, .int .i64 q] 27)) w.heap.size on c p q := heap_alloc_new w _
section
variable {w : World} {g on : Nat} {c p q : Int}
theorem XBlk.lt (h : XBlk w g on c p q) : g < w.heap.size := (Array.getElem?_eq_some_iff.1 h).1
theorem XBlk.below {w' : World} (h : XBlk w g on c p q) (hb : Below w.heap.size w w') : XBlk w' g on c p q := by unfold XBlk; rw [hb.block g h.lt]; exact h
theorem XBlk.c0 (h : XBlk w g on c p q) : w.cell? ⟨g, 0, none⟩ = some (.int .u32 (on : Int)) := by unfold XBlk at h; simp [World.cell?, h]
theorem XBlk.c1 (h : XBlk w g on c p q) : w.cell? ⟨g, 1, none⟩ = some (.int .i64 c) := by unfold XBlk at h; simp [World.cell?, h]
theorem XBlk.c2 (h : XBlk w g on c p q) : w.cell? ⟨g, 2, none⟩ = some (.int .i64 p) := by unfold XBlk at h; simp [World.cell?, h]
theorem XBlk.c3 (h : XBlk w g on c p q) : w.cell? ⟨g, 3, none⟩ = some (.int .i64 q) := by unfold XBlk at h; simp [World.cell?, h]
end

theorem shr_bit (on j : Nat) (hon : on < 4294967296) : (bits .and .u32 ((on : Int) / 2 ^ j) 1 == 0) = !(on.testBit j) := by
  have h1 : (on : Int) / 2 ^ j = ((on / 2 ^ j : Nat) : Int) := by push_cast; rfl
  have h2 : on / 2 ^ j < 4294967296 := Nat.lt_of_le_of_lt (Nat.div_le_self _ _) hon
  have h3 := u32_and_nat (on / 2 ^ j) 1 h2 (by omega)
  rw [h1, show (1 : Int) = ((1 : Nat) : Int) from rfl, h3, Nat.and_one_is_mod, Nat.testBit_eq_decide_div_mod_eq]
  have h4 : on / 2 ^ j % 2 < 2 := Nat.mod_lt _ (by omega)
  generalize on / 2 ^ j % 2 = x at h4
  have : x = 0 ∨ x = 1 := by omega
  rcases this with rfl | rfl <;> rfl

theorem PAt.sub {w : World} {b o : Nat} {L : List Nd1} (h : PAt w (some ⟨b, o, none⟩) L) {j : Nat} (hj : j < L.length) : PAt w (some ⟨b, o + j, none⟩) [L[j]] := by
  refine ⟨fun _ => ⟨b, o + j, rfl, fun i hi => ?_⟩, fun x hx => ?_⟩
  · have : i = 0 := by simp at hi; omega
    subst this
    exact h.one hj
  · rw [List.mem_singleton.1 hx]; exact h.each _ (List.getElem_mem hj)

set_option maxRecDepth 100000 in
set_option maxHeartbeats 2000000 in
theorem back_any (a : Option Addr) (n c0 : Nat) (L : List Nd1) (on : Nat) (c p q : Int) (w : World) (hn : L.length = n) (hl : n ≤ 4611686018427387904) (hc0 : n ≤ c0) (hs : ∀ x ∈ L, x.C.length ≤ 140737488355328) (hon : on < 4294967296) (hat : PAt w a L) :
    Calls Try.prog 6 #[.slice a n c0, .agg #[.int .u32 (on : Int), .int .i64 c, .int .i64 p, .int .i64 q]] w fun e w' => e = .returned (.bool true) ∧ Below w.heap.size w w' := by
  have hx := XBlk.new w on c p q
  have b0 := below_lit w (.cells #[.int .u32 (on : Int), .int .i64 c, .int .i64 p, .int .i64 q] 27)
  have kB := big_any a n c0 L _ hn hl hs (hat.below b0)
  have kW := fun w => awake_any w
  have hs2 : ∀ x ∈ L, x.C.length ≤ 4611686018427387904 := fun x hx => by have := hs x hx; omega
  have kT := fun w' (h : Below w.heap.size w w') => take_any a n c0 L on c p q w' hn hl hs2 hon (hat.below h)
  replace hn := hid hn
  replace hs := hid hs
  replace hs2 := hid hs2
  replace hat := hid hat
  go_enter Try.func6, Try.ntmps6
  go_wp2_with fail
  generalize w.alloc (.cells #[.int .u32 (on : Int), .int .i64 c, .int .i64 p, .int .i64 q] 27) = wa at *
  refine kB.mono ?_
  rintro e w1 ⟨b, rfl, rfl, hbig⟩
  cases b with
  | true =>
    clear hbig
    go_wp2_with fail
    refine (kW _).mono ?_
    rintro e w2 ⟨rfl, hb2⟩
    have B2 := bnext b0 hb2
    go_wp2
    go_ret
    exact ⟨rfl, B2⟩
  | false =>
    have hbg := hbig rfl
    clear hbig
    replace hbg := hid hbg
    have x0 := hx.c0
    have x1 := hx.c1
    have x2 := hx.c2
    have x3 := hx.c3
    replace hx := hid hx
    go_wp2_with fail
    refine (kT _ b0).mono ?_
    rintro e w2 ⟨a2, c2, Q, rfl, hQ, hP2, hb2⟩
    have B2 := bnext b0 hb2
    clear x0 x1 x2 x3 kB
    by_cases he : (takeA (cutsOf L) on c p q).2 = 0
    · have hok := take_ok (P := cutsOf L) (Q := cutsOf Q) (on := on) (c := c) (p := p) (q := q) (by rw [hQ]; exact Prod.ext rfl he)
      have hQn : Q.length = n := by rw [← cutsOf_len, hok.len, cutsOf_len]; exact hn.out
      have hRn : (takeA (cutsOf L) on c p q).1.length = n := by rw [← hQ, cutsOf_len]; exact hQn
      rw [he, hRn]
      rw [hRn] at hP2
      have hn32 : n ≤ 32 := by have := hok.may.1.2.1; rw [cutsOf_len, hn.out] at this; exact this
      replace hok := hid hok
      replace hQn := hid hQn
      replace hRn := hid hRn
      replace hQ := hid hQ
      replace hP2 := hid hP2
      replace he := hid he
      go_wp2_with fail
      go_loopw [7] (fun i wr => ∃ j : Nat, j ≤ n ∧ i = .int .i64 (j : Int) ∧ Below w2.heap.size w2 wr) (fun i _ => n - (intOf i).toNat)
      case atStart => exact ⟨0, Nat.zero_le _, rfl, Below.refl _ _⟩
      case round =>
        obtain ⟨j, hj, rfl, hbw⟩ := hrel
        have hbx := hid (hx.out.below (bnext hb2 hbw))
        have x0 := hbx.out.c0
        by_cases hlt : j < n
        · have hjL : j < L.length := by rw [hn.out]; exact hlt
          have hjQ : j < Q.length := by rw [hQn.out]; exact hlt
          have hd := shr_bit on j hon
          cases hbit : on.testBit j
          · rw [hbit, Bool.not_false] at hd
            obtain ⟨b1, o1, e⟩ := hat.out.place (by omega)
            subst e
            obtain ⟨b2, o2, e⟩ := hP2.out.pat.place (by omega)
            subst e
            obtain ⟨_, cq, eq, hcq⟩ := owns_form hP2.out.own
            simp only [Value.slice.injEq] at eq
            have hc2 : n ≤ c2 := by rw [eq.2.2, ← hQn.out]; exact hcq
            clear eq hcq
            have hCj := hok.out.aside j (by rw [cutsOf_len]; exact hjL) hbit
            rw [cutsOf_get hjL, cutsOf_get hjQ] at hCj
            have kS := fun cx cy => psame_any (some ⟨b1, o1 + j, none⟩) (some ⟨b2, o2 + j, none⟩) 1 cx cy [L[j]] [Q[j]] wr.drew rfl (by omega) (fun x hx => by rw [List.mem_singleton.1 hx]; exact hs2.out _ (List.getElem_mem hjL)) (by simp [cutsOf, hCj]) (((hat.out.below (bnext B2 hbw)).sub hjL).below (drew_below _)) (((hP2.out.pat.below hbw).sub hjQ).below (drew_below _))
            replace hCj := hid hCj
            replace hbit := hid hbit
            have hjw : IntKind.i64.wrap ((j : Int) + 1) = (j : Int) + 1 := by rw [IntKind.wrap_i64]; omega
            have hz1 : c0 - j ≠ 0 := by omega
            have hz2 : c2 - j ≠ 0 := by omega
            have hS := hid (fun w' (h : Below wr.heap.size wr w') => stay h x0)
            go_wp2_with fail
            go_region_held (fun w' : World => w'.cell? ⟨w.heap.size, 0, none⟩ = some (.int .u32 (on : Int)))
              (first | exact hS.out _ (bnext (drew_below _) hb4) | exact hS.out _ (drew_below _))
              (first | (go_at_call 18; refine (kS _ _).mono ?_; rintro e w4 ⟨rfl, hb4⟩))
            all_goals
              have hb5 := bnext hbw (bnext (drew_below _) hb4)
              go_wp2_with fail
              go_roundw
              case rel => exact ⟨j + 1, by omega, by go_num, hb5⟩
              case measure => simp [intOf]; omega
          · rw [hbit, Bool.not_true] at hd
            replace hbit := hid hbit
            go_wp2_with fail
            go_quiet (fail)
            have hb5 := below_drewN hbw nq
            generalize wr.drewN nq = wq at *
            go_wp2_with fail
            go_roundw
            case rel => exact ⟨j + 1, by omega, by go_num, hb5⟩
            case measure => simp [intOf]; omega
        · have hje : j = n := by omega
          subst hje
          have x1 := hbx.out.c1
          have x2 := hbx.out.c2
          have x3 := hbx.out.c3
          have kG := give_any a2 j c2 Q on c p q wr hQn.out hl (fun x hx => by have := short_of hok.out.right x hx; omega) hon (hP2.out.pat.below hbw)
          rw [give_back hok.out] at kG
          replace kG := told_n j (by rw [cutsOf_len]; exact hn.out) kG
          go_wp2_with fail
          refine kG.mono ?_
          rintro e w5 ⟨a5, c5, L5, rfl, hL5, hl5, hP5, hb5⟩
          have B5 := bnext B2 (bnext hbw hb5)
          have kS := psame_any a5 a j c5 c0 L5 L w5 hl5 hl (fun x hx => by have := short_of (L := L5) (by rw [hL5]; exact hok.out.may.1) x hx; omega) hL5 hP5 (hat.out.below B5)
          clear kG hP5 hL5 hl5 x0 x1 x2 x3
          go_wp2_with fail
          refine kS.mono ?_
          rintro e w6 ⟨rfl, hb6⟩
          have B6 := bnext B5 hb6
          go_wp2_with fail
          refine (kW _).mono ?_
          rintro e w7 ⟨rfl, hb7⟩
          have B7 := bnext B6 hb7
          go_wp2
          go_ret
          exact ⟨rfl, B7⟩
    · have hnil := takeA_err he
      have hd : ((takeA (cutsOf L) on c p q).2 != 0) = true := by simpa using he
      have hl0 : (takeA (cutsOf L) on c p q).1.length = 0 := by rw [hnil]; rfl
      rw [hl0]
      clear hP2 hQ hnil hl0
      replace he := hid he
      generalize (takeA (cutsOf L) on c p q).2 = E at *
      go_wp2_with fail
      refine (kW _).mono ?_
      rintro e w7 ⟨rfl, hb7⟩
      have B7 := bnext B2 hb7
      go_wp2
      go_ret
      exact ⟨rfl, B7⟩

end Go.Proofs.Yticlpjpbjgfgmaa
