/- What holdsLittle answers of a field that is too great; what Right answers. -/
import Derived.Test.YtkkdiciadkcmmaaRight
namespace Go.Proofs.Ytkkdiciadkcmmaa
open Go.RowKit

set_option maxRecDepth 100000 in
set_option maxHeartbeats 4000000 in
theorem little_no (tg k : Int) (n : Int) (text : ByteArray) (na ta : Option Addr) (nl tl nc tc : Nat) (ts : List ByteArray) (w : World) (htl : ts.length = tl) (hat : TAt w ta ts) (h : ¬ Little text.size nl ts) :
    Calls Try.prog 30 #[.agg #[.int .u8 tg, .int .u8 k, .int .i64 n, .string text, .slice na nl nc, .slice ta tl tc]] w fun e w' => e = .returned (.bool false) ∧ Below w.heap.size w w' := by
  by_cases h1 : text.size ≤ 65535
  · by_cases h2 : nl ≤ 256
    · by_cases h3 : tl ≤ 256
      · have h4 : ¬ ∀ s ∈ ts, s.size ≤ 65535 := fun e => h ⟨h1, h2, by omega, e⟩
        clear h
        go_enter Try.func30, Try.ntmps30
        go_wp2
        go_loopw [24] (fun i wr => ∃ j : Nat, j ≤ tl ∧ i = .int .i64 j ∧ Below w.heap.size w wr ∧ ∀ q (hq : q < ts.length), q < j → ts[q].size ≤ 65535) (fun i _ => tl - (intOf i).toNat)
        case atStart => exact ⟨0, Nat.zero_le _, rfl, below_lit w _, fun q _ hq => by omega⟩
        case round =>
          obtain ⟨j, hj, rfl, hb, hall⟩ := hrel
          by_cases hlt : j < tl
          · obtain ⟨b, o, rfl, hc⟩ := TAt.form (CAt.below hat hb) (by intro e; subst e; simp at htl; omega)
            have hcj := hc j (by omega)
            clear hc
            by_cases hs : (ts[j]'(by omega)).size ≤ 65535
            · have hall' : ∀ q (hq : q < ts.length), q < j + 1 → ts[q].size ≤ 65535 := fun q hq hlt' => by
                rcases Nat.lt_or_ge q j with h | h
                · exact hall q hq h
                · obtain rfl : q = j := by omega
                  exact hs
              replace htl := hid htl
              clear hall
              replace hall' := hid hall'
              generalize ts[j]'(by have := htl.out; omega) = s at *
              go_wp2
              go_roundw
              case rel => exact ⟨j + 1, by omega, by go_num, hb, hall'.out⟩
              case measure => simp [intOf]; omega
            · have hs' : 65535 < (ts[j]'(by omega)).size := by omega
              clear hs
              replace htl := hid htl
              replace hall := hid hall
              generalize ts[j]'(by have := htl.out; omega) = s at *
              go_wp2
              go_ret
              exact ⟨rfl, hb⟩
          · exact absurd (fun s hs => by
              obtain ⟨q, hq, rfl⟩ := List.getElem_of_mem hs
              exact hall q hq (by omega)) h4
      · have h3' : 256 < tl := by omega
        clear h
        go_enter Try.func30, Try.ntmps30
        go_wp2
        go_ret
        exact ⟨rfl, below_lit w _⟩
    · have h2' : 256 < nl := by omega
      clear h
      go_enter Try.func30, Try.ntmps30
      go_wp2
      go_ret
      exact ⟨rfl, below_lit w _⟩
  · have h1' : 65535 < text.size := by omega
    clear h
    go_enter Try.func30, Try.ntmps30
    go_wp2
    go_ret
    exact ⟨rfl, below_lit w _⟩

theorem kindR_iff (i : It) : (kindR i.fd.kind i.fd.n i.fd.text i.fd.ns.length i.fd.texts.length = true ∧ Little i.fd.text.size i.fd.ns.length i.fd.texts) ↔ Good i.fd := by
  unfold kindR Little Good
  have hne : ∀ {α : Type} (l : List α), (l.length = 0 ↔ l = []) := fun l => List.length_eq_zero_iff
  have hz : ByteArray.empty.size = 0 := rfl
  constructor
  · rintro ⟨h1, h2, h3, h4, h5⟩
    split at h1
    · rename_i e; simp [text_nil] at h1; exact .inl ⟨e, h1⟩
    · split at h1
      · rename_i e; simp [text_nil] at h1; exact .inr (.inl ⟨e, h1.1, h1.2.1, h2, h1.2.2⟩)
      · split at h1
        · rename_i e; simp [text_nil] at h1; exact .inr (.inr (.inl ⟨e, h1.1, h1.2.1, h1.2.2.1, h3, h1.2.2.2⟩))
        · split at h1
          · rename_i e; simp [text_nil] at h1; exact .inr (.inr (.inr ⟨e, h1.1, h1.2.1, h1.2.2.1, h1.2.2.2, h4, h5⟩))
          · cases h1
  · rintro (⟨e, h1, h2, h3, h4⟩ | ⟨e, h1, h2, h3, h4, h5⟩ | ⟨e, h1, h2, h3, h4, h5⟩ | ⟨e, h1, h2, h3, h4, h5, h6⟩)
    · rw [e, h2, h3, h4]; simp [hz, h1]
    · rw [e, h1, h4, h5]; simp [h2, h3, text_nil]
    · rw [e, h1, h2, h5]; simp [hz, h3, h4]
    · rw [e, h1, h2, h3]; simp [hz, h4, h5]; exact h6

end Go.Proofs.Ytkkdiciadkcmmaa
