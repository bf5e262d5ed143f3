/- Asks in memory: blocks, whether an ask is right. -/
import Derived.Test.YtilncacmkfohdaaGreatPfFree2
namespace Go.Proofs.YtilncacmkfohdaaGreat.Pf
open Go.RowKit

theorem flat_get {α β : Type} (f : α → List β) (k : Nat) (hk : ∀ x, (f x).length = k) : ∀ (L : List α) (i r : Nat) (hi : i < L.length), r < k → (L.flatMap f)[i * k + r]? = (f L[i])[r]?
  | [], i, r, hi, _ => absurd hi (Nat.not_lt_zero _)
  | x :: L, 0, r, _, hr => by
    rw [Nat.zero_mul, Nat.zero_add, List.flatMap_cons, List.getElem?_append_left (by rw [hk]; exact hr)]
    rfl
  | x :: L, i + 1, r, hi, hr => by
    have e : (i + 1) * k + r = k + (i * k + r) := by rw [Nat.add_mul, Nat.one_mul]; omega
    rw [List.flatMap_cons, List.getElem?_append_right (by rw [hk, e]; omega), hk, e, Nat.add_sub_cancel_left, flat_get f k hk L i r (by simpa using hi) hr]
    rfl
theorem flat_len {α β : Type} (f : α → List β) (k : Nat) (hk : ∀ x, (f x).length = k) : ∀ (L : List α), (L.flatMap f).length = L.length * k
  | [] => by simp
  | x :: L => by rw [List.flatMap_cons, List.length_append, hk, flat_len f k hk L, List.length_cons, Nat.add_mul]; omega

structure BlkP where
  nodes : Nat
  f : Int
  t : Int
def bc (b : BlkP) : List Value := [.int .u32 (b.nodes : Int), .int .i64 b.f, .int .i64 b.t]
def BAt (w : World) (a : Option Addr) (B : List BlkP) : Prop := CAt w a (B.flatMap bc)

theorem BAt.below {w w' : World} {a : Option Addr} {B : List BlkP} (h : BAt w a B) (hb : Below w.heap.size w w') : BAt w' a B := CAt.below h hb
theorem BAt.nil (w : World) (a : Option Addr) : BAt w a [] := CAt.nil w a
theorem bc_ne {B : List BlkP} (h : 0 < B.length) : B.flatMap bc ≠ [] := by
  intro e
  have := congrArg List.length e
  rw [flat_len bc 3 (fun _ => rfl)] at this
  simp at this
  omega
theorem BAt.place {w : World} {a : Option Addr} {B : List BlkP} (h : BAt w a B) (h0 : 0 < B.length) : ∃ b o, a = some ⟨b, o, none⟩ := by
  obtain ⟨b, o, e, _⟩ := h (bc_ne h0)
  exact ⟨b, o, e⟩
theorem BAt.one {w : World} {b o : Nat} {B : List BlkP} (h : BAt w (some ⟨b, o, none⟩) B) {i : Nat} (hi : i < B.length) :
    w.cell? ⟨b, o + i * 3, none⟩ = some (.int .u32 (B[i].nodes : Int)) ∧ w.cell? ⟨b, o + i * 3 + 1, none⟩ = some (.int .i64 B[i].f) ∧ w.cell? ⟨b, o + i * 3 + 2, none⟩ = some (.int .i64 B[i].t) := by
  obtain ⟨b', o', e, hc⟩ := h (bc_ne (by omega))
  cases e
  have key : ∀ r (hr : r < 3), w.cell? ⟨b, o + i * 3 + r, none⟩ = some ((bc B[i])[r]'(by exact hr)) := by
    intro r hr
    have hlt : i * 3 + r < (B.flatMap bc).length := by rw [flat_len bc 3 (fun _ => rfl)]; omega
    rw [Nat.add_assoc, hc _ hlt]
    have := flat_get bc 3 (fun _ => rfl) B i r hi hr
    rw [List.getElem?_eq_getElem hlt, List.getElem?_eq_getElem (by exact hr)] at this
    exact this
  exact ⟨key 0 (by omega), key 1 (by omega), key 2 (by omega)⟩

structure AskP where
  count : Int
  cores : Int
  limit : Int
  fr : Int
  nodes : Nat
  bs : List BlkP

/-- A right ask. -/
abbrev RightAsk (A : AskP) : Prop := (1 ≤ A.count ∧ A.count ≤ 32) ∧ (1 ≤ A.cores ∧ A.cores ≤ 64) ∧ (1 ≤ A.limit ∧ A.limit ≤ 1048576) ∧ (0 ≤ A.fr ∧ A.fr ≤ 1099511627776) ∧ A.bs.length ≤ 4096 ∧ ∀ b ∈ A.bs, winP b.f b.t
def askB (A : AskP) : Bool := decide (RightAsk A)
theorem askB_iff {A : AskP} : askB A = true ↔ RightAsk A := by simp only [askB, decide_eq_true_eq]
theorem askB_no {A : AskP} (h : ¬ RightAsk A) : askB A = false := decide_eq_false h

def AskP.cells (A : AskP) (a : Option Addr) (n c : Nat) : Array Value := #[.int .i64 A.count, .int .i64 A.cores, .int .i64 A.limit, .int .i64 A.fr, .int .u32 (A.nodes : Int), .slice a n c]
def AskP.val (A : AskP) (a : Option Addr) (n c : Nat) : Value := .agg (A.cells a n c)

/-- An ask in a block. -/
def ABlk (w : World) (g : Nat) (A : AskP) (a : Option Addr) (n c : Nat) : Prop := w.heap[g]? = some (.cells (A.cells a n c) 50 (0, 0))
theorem ABlk.new (w : World) (A : AskP) (a : Option Addr) (n c : Nat) : ABlk (w.alloc (.cells (A.cells a n c) 50)) w.heap.size A a n c := heap_alloc_new w _
section
variable {w : World} {g : Nat} {A : AskP} {a : Option Addr} {n c : Nat}
theorem ABlk.lt (h : ABlk w g A a n c) : g < w.heap.size := (Array.getElem?_eq_some_iff.1 h).1
theorem ABlk.below {w' : World} (h : ABlk w g A a n c) (hb : Below w.heap.size w w') : ABlk w' g A a n c := by unfold ABlk; rw [hb.block g h.lt]; exact h
theorem ABlk.kp {w' : World} {S : Nat → Prop} (h : ABlk w g A a n c) (hk : Kp S w w') (hn : ¬ S g) : ABlk w' g A a n c := by unfold ABlk; rw [hk.block g h.lt hn]; exact h
theorem ABlk.c0 (h : ABlk w g A a n c) : w.cell? ⟨g, 0, none⟩ = some (.int .i64 A.count) := by unfold ABlk at h; simp [World.cell?, h, AskP.cells]
theorem ABlk.c1 (h : ABlk w g A a n c) : w.cell? ⟨g, 1, none⟩ = some (.int .i64 A.cores) := by unfold ABlk at h; simp [World.cell?, h, AskP.cells]
theorem ABlk.c2 (h : ABlk w g A a n c) : w.cell? ⟨g, 2, none⟩ = some (.int .i64 A.limit) := by unfold ABlk at h; simp [World.cell?, h, AskP.cells]
theorem ABlk.c3 (h : ABlk w g A a n c) : w.cell? ⟨g, 3, none⟩ = some (.int .i64 A.fr) := by unfold ABlk at h; simp [World.cell?, h, AskP.cells]
theorem ABlk.c4 (h : ABlk w g A a n c) : w.cell? ⟨g, 4, none⟩ = some (.int .u32 (A.nodes : Int)) := by unfold ABlk at h; simp [World.cell?, h, AskP.cells]
theorem ABlk.c5 (h : ABlk w g A a n c) : w.cell? ⟨g, 5, none⟩ = some (.slice a n c) := by unfold ABlk at h; simp [World.cell?, h, AskP.cells]
end

theorem notwin_any (x : Nat) (p q : Int) (w : World) : Calls Tryz.prog 46 #[.agg #[.int .u32 (x : Int), .int .i64 p, .int .i64 q]] w fun e w' => e = .returned (.bool (!winB p q)) ∧ Below w.heap.size w w' := by
  have kW := fun w => pwindow_any p q w
  generalize winB p q = B at *
  go_enter Tryz.func46, Tryz.ntmps46
  go_wp2_with fail
  refine (kW _).mono ?_
  rintro e w1 ⟨rfl, rfl⟩
  go_wp2
  go_ret
  exact ⟨rfl, below_lit _ _⟩

def WinTo (B : List BlkP) (j : Nat) : Prop := ∀ b ∈ B.take j, winP b.f b.t
theorem WinTo.next {B : List BlkP} {j : Nat} (h : WinTo B j) (hj : j < B.length) (k : winP B[j].f B[j].t) : WinTo B (j + 1) := by
  intro x hx
  rw [List.take_add_one, List.getElem?_eq_getElem hj] at hx
  rcases List.mem_append.1 hx with h1 | h1
  · exact h x h1
  · simp at h1; rw [h1]; exact k

/-- Some number that is 0 or more just if a block is no window. -/
def IxIs (B : List BlkP) (w : World) (e : Ending) (w' : World) : Prop := ∃ r : Int, e = .returned (.int .i64 r) ∧ (0 ≤ r ↔ ¬ ∀ b ∈ B, winP b.f b.t) ∧ Below w.heap.size w w'

set_option maxRecDepth 100000 in
set_option maxHeartbeats 800000 in
theorem index_any (a : Option Addr) (n c : Nat) (B : List BlkP) (w : World) (hn : B.length = n) (hl : n ≤ 4611686018427387904) (hat : BAt w a B) :
    Calls Tryz.prog 69 #[.slice a n c, .func (.func 46) #[] #[]] w fun e w' => IxIs B w e w' := by
  replace hn := hid hn
  replace hat := hid hat
  go_enter Tryz.func69, Tryz.ntmps69
  go_wp2_with fail
  go_loopw [8] (fun i wr => ∃ j : Nat, j ≤ n ∧ i = .int .i64 (j : Int) ∧ Hid (WinTo B j) ∧ Below w.heap.size w wr) (fun i _ => n - (intOf i).toNat)
  case atStart => exact ⟨0, Nat.zero_le _, rfl, hid (fun x hx => by simp at hx), Below.refl _ _⟩
  case round =>
    obtain ⟨j, hj, rfl, hok, hb⟩ := hrel
    by_cases hlt : j < n
    · have hjL : j < B.length := by rw [hn.out]; exact hlt
      obtain ⟨b, o, e⟩ := hat.out.place (by omega)
      subst e
      obtain ⟨x0, x1, x2⟩ := (hat.out.below hb).one hjL
      have kN := fun w => notwin_any B[j].nodes B[j].f B[j].t w
      have hmem := hid (List.getElem_mem hjL)
      by_cases h1 : winP B[j].f B[j].t
      · rw [winB_iff.2 h1] at kN
        have hok2 := hid (hok.out.next hjL h1)
        clear hmem h1
        generalize B[j].nodes = X at *
        generalize B[j].f = Y at *
        generalize B[j].t = Z at *
        go_wp2_with fail
        refine (kN _).mono ?_
        rintro e w1 ⟨rfl, hb1⟩
        have hb2 := bnext hb hb1
        go_wp2_with fail
        go_roundw
        case rel => exact ⟨j + 1, by omega, by go_num, hok2, hb2⟩
        case measure => simp [intOf]; omega
      · rw [winB_no h1] at kN
        have hf := hid (show ¬ ∀ b ∈ B, winP b.f b.t from fun h => h1 (h _ hmem.out))
        clear hmem h1
        generalize B[j].nodes = X at *
        generalize B[j].f = Y at *
        generalize B[j].t = Z at *
        go_wp2_with fail
        refine (kN _).mono ?_
        rintro e w1 ⟨rfl, hb1⟩
        have hb2 := bnext hb hb1
        go_wp2
        go_ret
        exact ⟨_, rfl, ⟨fun _ => hf.out, fun _ => by omega⟩, hb2⟩
    · have hje : j = n := by omega
      subst hje
      have hf := hid (show ∀ b ∈ B, winP b.f b.t from fun x hx => hok.out x (by rw [← hn.out, List.take_length]; exact hx))
      go_wp2
      go_ret
      exact ⟨-1, rfl, ⟨fun h => by omega, fun h => absurd hf.out h⟩, hb⟩

theorem contains_any (a : Option Addr) (n c : Nat) (B : List BlkP) (w : World) (hn : B.length = n) (hl : n ≤ 4611686018427387904) (hat : BAt w a B) :
    Calls Tryz.prog 45 #[.slice a n c, .func (.func 46) #[] #[]] w fun e w' => e = .returned (.bool (!decide (∀ b ∈ B, winP b.f b.t))) ∧ Below w.heap.size w w' := by
  have kI := index_any a n c B w hn hl hat
  replace hn := hid hn
  clear hat
  go_enter Tryz.func45, Tryz.ntmps45
  go_wp2_with fail
  refine kI.mono ?_
  rintro e w1 ⟨r, rfl, hr, hb1⟩
  by_cases h : ∀ b ∈ B, winP b.f b.t
  · have d : decide (0 ≤ r) = false := decide_eq_false fun h0 => (hr.1 h0) h
    have hf := hid (show (!decide (∀ b ∈ B, winP b.f b.t)) = false by rw [decide_eq_true h]; rfl)
    clear hr h
    go_wp2
    go_ret
    rw [hf.out]
    exact ⟨rfl, hb1⟩
  · have d : decide (0 ≤ r) = true := decide_eq_true (hr.2 h)
    have hf := hid (show (!decide (∀ b ∈ B, winP b.f b.t)) = true by rw [decide_eq_false h]; rfl)
    clear hr h
    go_wp2
    go_ret
    rw [hf.out]
    exact ⟨rfl, hb1⟩

set_option maxRecDepth 100000 in
set_option maxHeartbeats 800000 in
theorem isask_any (A : AskP) (a : Option Addr) (n c : Nat) (w : World) (hn : A.bs.length = n) (hl : n ≤ 4611686018427387904) (hat : BAt w a A.bs) :
    Calls Tryz.prog 22 #[A.val a n c] w fun e w' => e = .returned (.bool (askB A)) ∧ Below w.heap.size w w' := by
  have hb0 := below_lit w (.cells (A.cells a n c) 50)
  have hA := ABlk.new w A a n c
  have c0 := hA.c0
  have c1 := hA.c1
  have c2 := hA.c2
  have c3 := hA.c3
  have c5 := hA.c5
  have kC := contains_any a n c A.bs _ hn hl (hat.below hb0)
  have hB : askB A = (decide (¬ (A.count < 1)) && (decide (¬ (32 < A.count)) && (decide (¬ (A.cores < 1)) && (decide (¬ (64 < A.cores)) && (decide (¬ (A.limit < 1)) && (decide (¬ (1048576 < A.limit)) && (decide (¬ (A.fr < 0)) && (decide (¬ (1099511627776 < A.fr)) && (decide (¬ (4096 < (n : Int))) && decide (∀ b ∈ A.bs, winP b.f b.t)))))))))) := by
    rw [Bool.eq_iff_iff]
    simp only [askB_iff, Bool.and_eq_true, decide_eq_true_eq]
    rw [← hn]
    constructor
    · rintro ⟨h1, h2, h3, h4, h5, h6⟩; exact ⟨by omega, by omega, by omega, by omega, by omega, by omega, by omega, by omega, by omega, h6⟩
    · rintro ⟨h1, h2, h3, h4, h5, h6, h7, h8, h9, h10⟩; exact ⟨by omega, by omega, by omega, by omega, by omega, h10⟩
  clear hA hat
  replace hn := hid hn
  unfold AskP.val AskP.cells at *
  generalize A.count = X0 at *
  generalize A.cores = X1 at *
  generalize A.limit = X2 at *
  generalize A.fr = X3 at *
  generalize A.nodes = X4 at *
  generalize askB A = R at *
  generalize decide (∀ b ∈ A.bs, winP b.f b.t) = W at *
  clear hb0
  by_cases k0 : X0 < 1
  · have d0 : decide (X0 < 1) = true := decide_eq_true k0
    have hf := hid (show R = false by rw [hB]; simp only [k0, not_true_eq_false, decide_false, Bool.false_and])
    clear hB kC
    go_enter Tryz.func22, Tryz.ntmps22
    go_wp2
    go_ret
    rw [hf.out]; exact ⟨rfl, below_lit _ _⟩
  · have d0 : decide (X0 < 1) = false := decide_eq_false k0
    by_cases k1 : 32 < X0
    · have d1 : decide (32 < X0) = true := decide_eq_true k1
      have hf := hid (show R = false by rw [hB]; simp only [k0, k1, not_true_eq_false, not_false_eq_true, decide_false, decide_true, Bool.true_and, Bool.false_and])
      clear hB kC
      go_enter Tryz.func22, Tryz.ntmps22
      go_wp2
      go_ret
      rw [hf.out]; exact ⟨rfl, below_lit _ _⟩
    · have d1 : decide (32 < X0) = false := decide_eq_false k1
      by_cases k2 : X1 < 1
      · have d2 : decide (X1 < 1) = true := decide_eq_true k2
        have hf := hid (show R = false by rw [hB]; simp only [k0, k1, k2, not_true_eq_false, not_false_eq_true, decide_false, decide_true, Bool.true_and, Bool.false_and])
        clear hB kC
        go_enter Tryz.func22, Tryz.ntmps22
        go_wp2
        go_ret
        rw [hf.out]; exact ⟨rfl, below_lit _ _⟩
      · have d2 : decide (X1 < 1) = false := decide_eq_false k2
        by_cases k3 : 64 < X1
        · have d3 : decide (64 < X1) = true := decide_eq_true k3
          have hf := hid (show R = false by rw [hB]; simp only [k0, k1, k2, k3, not_true_eq_false, not_false_eq_true, decide_false, decide_true, Bool.true_and, Bool.false_and])
          clear hB kC
          go_enter Tryz.func22, Tryz.ntmps22
          go_wp2
          go_ret
          rw [hf.out]; exact ⟨rfl, below_lit _ _⟩
        · have d3 : decide (64 < X1) = false := decide_eq_false k3
          by_cases k4 : X2 < 1
          · have d4 : decide (X2 < 1) = true := decide_eq_true k4
            have hf := hid (show R = false by rw [hB]; simp only [k0, k1, k2, k3, k4, not_true_eq_false, not_false_eq_true, decide_false, decide_true, Bool.true_and, Bool.false_and])
            clear hB kC
            go_enter Tryz.func22, Tryz.ntmps22
            go_wp2
            go_ret
            rw [hf.out]; exact ⟨rfl, below_lit _ _⟩
          · have d4 : decide (X2 < 1) = false := decide_eq_false k4
            by_cases k5 : 1048576 < X2
            · have d5 : decide (1048576 < X2) = true := decide_eq_true k5
              have hf := hid (show R = false by rw [hB]; simp only [k0, k1, k2, k3, k4, k5, not_true_eq_false, not_false_eq_true, decide_false, decide_true, Bool.true_and, Bool.false_and])
              clear hB kC
              go_enter Tryz.func22, Tryz.ntmps22
              go_wp2
              go_ret
              rw [hf.out]; exact ⟨rfl, below_lit _ _⟩
            · have d5 : decide (1048576 < X2) = false := decide_eq_false k5
              by_cases k6 : X3 < 0
              · have d6 : decide (X3 < 0) = true := decide_eq_true k6
                have hf := hid (show R = false by rw [hB]; simp only [k0, k1, k2, k3, k4, k5, k6, not_true_eq_false, not_false_eq_true, decide_false, decide_true, Bool.true_and, Bool.false_and])
                clear hB kC
                go_enter Tryz.func22, Tryz.ntmps22
                go_wp2
                go_ret
                rw [hf.out]; exact ⟨rfl, below_lit _ _⟩
              · have d6 : decide (X3 < 0) = false := decide_eq_false k6
                by_cases k7 : 1099511627776 < X3
                · have d7 : decide (1099511627776 < X3) = true := decide_eq_true k7
                  have hf := hid (show R = false by rw [hB]; simp only [k0, k1, k2, k3, k4, k5, k6, k7, not_true_eq_false, not_false_eq_true, decide_false, decide_true, Bool.true_and, Bool.false_and])
                  clear hB kC
                  go_enter Tryz.func22, Tryz.ntmps22
                  go_wp2
                  go_ret
                  rw [hf.out]; exact ⟨rfl, below_lit _ _⟩
                · have d7 : decide (1099511627776 < X3) = false := decide_eq_false k7
                  by_cases k8 : 4096 < (n : Int)
                  · have d8 : decide (4096 < (n : Int)) = true := decide_eq_true k8
                    have hf := hid (show R = false by rw [hB]; simp only [k0, k1, k2, k3, k4, k5, k6, k7, k8, not_true_eq_false, not_false_eq_true, decide_false, decide_true, Bool.true_and, Bool.false_and])
                    clear hB kC
                    go_enter Tryz.func22, Tryz.ntmps22
                    go_wp2
                    go_ret
                    rw [hf.out]; exact ⟨rfl, below_lit _ _⟩
                  · have d8 : decide (4096 < (n : Int)) = false := decide_eq_false k8
                    have hf := hid (show R = W by rw [hB]; simp only [k0, k1, k2, k3, k4, k5, k6, k7, k8, not_false_eq_true, decide_true, Bool.true_and])
                    clear hB
                    go_enter Tryz.func22, Tryz.ntmps22
                    go_wp2_with fail
                    refine kC.mono ?_
                    rintro e w1 ⟨rfl, hb1⟩
                    go_wp2
                    go_ret
                    rw [hf.out]
                    exact ⟨by cases W <;> rfl, bnext (below_lit _ _) hb1⟩

end Go.Proofs.YtilncacmkfohdaaGreat.Pf
