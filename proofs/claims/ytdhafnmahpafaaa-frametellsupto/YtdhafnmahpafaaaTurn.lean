/- Single bytes of a row of the call's own: read, written. -/
import Derived.Test.YtdhafnmahpafaaaAwake
namespace Go.Proofs.Ytdhafnmahpafaaa
open Go.RowKit

theorem Own.set {w : World} {base g n cap : Nat} {l : List UInt8} (h : Own w base (.slice (some ⟨g, 0, none⟩) n cap) l) (hl : l.length = n) (i : Nat) (x : UInt8) :
    Own (w.setCell ⟨g, i, none⟩ (B x)) base (.slice (some ⟨g, 0, none⟩) n cap) (l.set i x) := by
  subst hl
  unfold Own at *
  have := (World.ownsRow.stored h i (B x)).1
  rw [List.length_set, List.map_set]
  exact this

theorem Own.free {w : World} {base g n cap : Nat} {l : List UInt8} (h : Own w base (.slice (some ⟨g, 0, none⟩) n cap) l) (hl : l.length = n) (i : Nat) : w.frozen? ⟨g, i, none⟩ = false := by
  subst hl; exact World.ownsRow.frozenAt h i

theorem Own.cellAt {w : World} {base g n cap : Nat} {l : List UInt8} (h : Own w base (.slice (some ⟨g, 0, none⟩) n cap) l) (hl : l.length = n) (i : Nat) (hi : i < n) : w.cell? ⟨g, i, none⟩ = some (.int .u8 ((l.getD i 0).toNat : Int)) := by
  subst hl
  have := World.ownsRow.cellAt h i (by omega)
  rw [this]
  simp [hi, B]

theorem Own.base_le {w : World} {base g n cap : Nat} {l : List UInt8} (h : Own w base (.slice (some ⟨g, 0, none⟩) n cap) l) : base ≤ g := by
  rcases h.2 with ⟨h1, _⟩ | ⟨g', cap', cur, hv, hb, _⟩
  · cases h1
  · simp at hv
    obtain ⟨rfl, _⟩ := hv
    exact hb

theorem Rd.low {w w' : World} {p B : Nat} {v : Value} {st : Option (List UInt8)} (h : Rd w p v st) (hb : Below B w w') (hp : p < B) (hv : ∀ k, v.ownBlock = some k → k < B) : Rd w' p v st :=
  h.kp (Kp.of_low hb) (by omega) fun k hk => by have := hv k hk; omega

theorem two_turned : feedOf (some []) ((frameOf (5, [97, 98]) ++ frameOf (5, [97, 98])).set 15 4) = ([(5, [97, 98])], none) := by
  show takeOf _ = _
  have hl : (frameOf (5, [97, 98])).length = 11 := frame_len _
  rw [List.nil_append, List.set_append_right _ _ (by rw [hl]; omega), hl, take_frame (5, [97, 98]) _ (by decide)]
  have := turn_wrong (5, [97, 98]) [] (by decide) 0 (by decide) 4 (by rw [f5]; decide)
  rw [List.append_nil] at this
  rw [show 15 - 11 = 4 + 0 from rfl, this]

theorem two_byte : (frameOf (5, [97, 98]) ++ frameOf (5, [97, 98])).getD 15 0 = 5 := by
  have hl : (frameOf (5, [97, 98])).length = 11 := frame_len _
  simp only [List.getD]
  rw [List.getElem?_append_right (by rw [hl]; omega), hl, f5]
  rfl

end Go.Proofs.Ytdhafnmahpafaaa
