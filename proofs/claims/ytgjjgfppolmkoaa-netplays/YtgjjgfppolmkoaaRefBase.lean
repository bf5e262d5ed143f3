/- The document's net in memory: its packets in a row, each with its body; SamePackets; find. -/
import Derived.Test.YtgjjgfppolmkoaaSentBase
import Derived.Deep.RegionHeld
namespace Go.Proofs.Ytgjjgfppolmkoaa
open Go.RowKit Go.Maps

/-- Packets that can be read behind the address a. -/
structure RAt (w : World) (a : Option Addr) (R : List Pk) : Prop where
  row : CAt w a (R.flatMap Pk.cells)
  body : ∀ q ∈ R, At w q.a q.body

theorem RAt.below {w w' : World} {a : Option Addr} {R : List Pk} (h : RAt w a R) (hb : Below w.heap.size w w') : RAt w' a R := ⟨h.row.below hb, fun q hq => (h.body q hq).below hb⟩

theorem RAt.nil (w : World) (a : Option Addr) : RAt w a [] := ⟨fun h => absurd rfl h, by simp⟩

theorem RAt.kp {S : Nat → Prop} {w w' : World} {a : Option Addr} {R : List Pk} (h : RAt w a R) (hk : Kp S w w') (ha : ∀ x, a = some x → ¬ S x.block) (hq : ∀ q ∈ R, ∀ x, q.a = some x → ¬ S x.block) : RAt w' a R :=
  ⟨h.row.kp hk ha, fun q h' => (h.body q h').kp hk (hq q h')⟩

theorem PRow.rat {w : World} {base n c : Nat} {a : Option Addr} {Q : List Pk} (h : PRow w base (.slice a n c) Q) : RAt w a Q :=
  ⟨owns_cat h.row, fun q hq => own_at (h.own q hq)⟩

theorem cells_ne {R : List Pk} (h : R ≠ []) : R.flatMap Pk.cells ≠ [] := by
  intro e
  have := cells_len R
  rw [e] at this
  have := List.length_pos_iff.2 h
  simp at *
  omega

theorem RAt.packet {w : World} {b o : Nat} {Q : List Pk} (h : RAt w (some ⟨b, o, none⟩) Q) (i : Nat) (hi : i < Q.length) :
    w.cell? ⟨b, o + i * 4, none⟩ = some (.int .i64 Q[i].num) ∧ w.cell? ⟨b, o + i * 4 + 1, none⟩ = some (.int .i64 Q[i].fr) ∧ w.cell? ⟨b, o + i * 4 + 2, none⟩ = some (.int .i64 Q[i].to) ∧ w.cell? ⟨b, o + i * 4 + 3, none⟩ = some (.slice Q[i].a Q[i].body.length Q[i].c) := by
  obtain ⟨b', o', e, hc⟩ := h.row (cells_ne (by intro e; rw [e] at hi; simp at hi))
  cases e
  have key : ∀ r (hr : r < 4), w.cell? ⟨b, o + (i * 4 + r), none⟩ = some ((Q[i].cells)[r]'(by simp [Pk.cells]; omega)) := fun r hr => by
    have hlt : i * 4 + r < (Q.flatMap Pk.cells).length := by rw [cells_len]; omega
    rw [hc _ hlt]
    have := flat_cells Q i r hi hr
    rw [List.getElem?_eq_getElem hlt] at this
    exact this
  exact ⟨key 0 (by omega), key 1 (by omega), key 2 (by omega), key 3 (by omega)⟩

theorem RAt.place {w : World} {a : Option Addr} {Q : List Pk} (h : RAt w a Q) (hne : Q ≠ []) : ∃ b o, a = some ⟨b, o, none⟩ := by
  obtain ⟨b, o, e, _⟩ := h.row (cells_ne hne)
  exact ⟨b, o, e⟩

set_option maxRecDepth 100000 in
set_option maxHeartbeats 2000000 in
/-- SamePackets of packets that are alike. -/
theorem samep_any (a1 a2 : Option Addr) (n c1 c2 : Nat) (Q R : List Pk) (w : World) (hQ : Q.length = n) (hf : Q.map Pk.flat = R.map Pk.flat) (h1 : RAt w a1 Q) (h2 : RAt w a2 R) (hn : n ≤ 1000000) :
    Calls Try.prog 21 #[.slice a1 n c1, .slice a2 n c2] w fun e w' => e = .returned (.bool true) ∧ Below w.heap.size w w' := by
  have hR : R.length = n := by have := congrArg List.length hf; rw [List.length_map, List.length_map] at this; omega
  replace hQ := hid hQ
  replace hR := hid hR
  replace hf := hid hf
  go_enter Try.func21, Try.ntmps21
  go_wp2_with fail
  go_loopw [5] (fun i wr => ∃ j : Nat, j ≤ n ∧ i = .int .i64 (j : Int) ∧ Below w.heap.size w wr) (fun i _ => n - (intOf i).toNat)
  case atStart => exact ⟨0, Nat.zero_le _, rfl, Below.refl _ _⟩
  case round =>
    obtain ⟨j, hj, rfl, hb⟩ := hrel
    by_cases hlt : j < n
    · have hjQ : j < Q.length := by rw [hQ.out]; exact hlt
      have hjR : j < R.length := by rw [hR.out]; exact hlt
      obtain ⟨b1, o1, e1⟩ := h1.place (by intro e; rw [e] at hjQ; simp at hjQ)
      obtain ⟨b2, o2, e2⟩ := h2.place (by intro e; rw [e] at hjR; simp at hjR)
      subst e1 e2
      have g1 := (h1.below hb).below (drew_below wr)
      have g2 := (h2.below hb).below (drew_below wr)
      obtain ⟨x0, x1, x2, x3⟩ := g1.packet j hjQ
      obtain ⟨y0, y1, y2, y3⟩ := g2.packet j hjR
      have hat1 := g1.body _ (List.getElem_mem hjQ)
      have hat2 := g2.body _ (List.getElem_mem hjR)
      have hfl : Q[j].flat = R[j].flat := by
        have := congrArg (fun l => l[j]?) hf.out
        simpa [hjQ, hjR] using this
      have f0 : Q[j].num = R[j].num := congrArg (fun x => x.1) hfl
      have f1 : Q[j].fr = R[j].fr := congrArg (fun x => x.2.1) hfl
      have f2 : Q[j].to = R[j].to := congrArg (fun x => x.2.2.1) hfl
      have f3 : Q[j].body = R[j].body := congrArg (fun x => x.2.2.2) hfl
      rw [f0] at x0
      rw [f1] at x1
      rw [f2] at x2
      rw [f3] at x3 hat1
      generalize R[j].num = num at x0 y0
      generalize R[j].fr = fr at x1 y1
      generalize R[j].to = to at x2 y2
      generalize R[j].body = body at x3 y3 hat1 hat2
      generalize Q[j].a = qa at x3 hat1
      generalize Q[j].c = qc at x3
      generalize R[j].a = ra at y3 hat2
      generalize R[j].c = rc at y3
      obtain ⟨len, hlen⟩ : ∃ x, body.length = x := ⟨_, rfl⟩
      rw [hlen] at x3 y3
      replace hlen := hid hlen
      clear f0 f1 f2 f3 hfl g1 g2
      have bd := drew_below wr
      go_wp2_with fail
      go_region_held (fun w' : World => w'.cell? ⟨b1, o1 + j * 4, none⟩ = some (.int .i64 num) ∧ w'.cell? ⟨b1, o1 + j * 4 + 1, none⟩ = some (.int .i64 fr) ∧ w'.cell? ⟨b1, o1 + j * 4 + 2, none⟩ = some (.int .i64 to) ∧ w'.cell? ⟨b1, o1 + j * 4 + 3, none⟩ = some (.slice qa len qc) ∧ w'.cell? ⟨b2, o2 + j * 4, none⟩ = some (.int .i64 num) ∧ w'.cell? ⟨b2, o2 + j * 4 + 1, none⟩ = some (.int .i64 fr) ∧ w'.cell? ⟨b2, o2 + j * 4 + 2, none⟩ = some (.int .i64 to) ∧ w'.cell? ⟨b2, o2 + j * 4 + 3, none⟩ = some (.slice ra len rc)) (exact ⟨x0, x1, x2, x3, y0, y1, y2, y3⟩)
        (first | (go_at_call 25; refine (same_any qa ra len len qc rc body body _ hlen.out hlen.out hat1 hat2 rfl).mono ?_; rintro e w7 ⟨rfl, rfl⟩))
      all_goals
        go_wp2_with fail
        go_roundw
        case rel => exact ⟨j + 1, by omega, by go_num, bnext hb bd⟩
        case measure => simp [intOf]; omega
    · obtain rfl : j = n := by omega
      go_wp2
      go_ret
      exact ⟨rfl, hb⟩

end Go.Proofs.Ytgjjgfppolmkoaa
