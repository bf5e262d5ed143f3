/- SessionOnce, plain: what holds between one client and the server, whatever is lost, doubled or late. -/
import Derived.Test.YthjggjjocfbjcaaKeepP
import Derived.Test.YthjggjjocfbjcaaAskr
namespace Go.Proofs.Ythjggjjocfbjcaa

/-- A right asker, in these words. -/
structure AskR (a : PA) : Prop where
  id : 1 ≤ a.1 ∧ a.1 ≤ MM
  next : 1 ≤ a.2.1 ∧ a.2.1 ≤ MM
  up : Up 0 a.2.2.2
  most : ∀ k ∈ a.2.2.2, k.1 ≤ a.2.1 - 1
  ack : a.2.2.1 = ackP a.2.1 (a.2.2.2.map (·.1))
  win : a.2.1 - 1 - a.2.2.1 ≤ 8

theorem askR_iff (a : PA) : rightA a = true ↔ AskR a := by
  unfold rightA numP
  simp only [Bool.and_eq_true, decide_eq_true_eq, beq_iff_eq]
  rw [rise_iff]
  constructor
  · rintro ⟨⟨⟨h1, h2⟩, h3, h4⟩, h5, h6⟩; exact ⟨h1, h2, h3, h4, h5, h6⟩
  · intro h; exact ⟨⟨⟨h.id, h.next⟩, h.up, h.most⟩, h.ack, h.win⟩

theorem ack_low {next : Int} {l : List PK} (hu : Up 0 l) (hm : ∀ k ∈ l, k.1 ≤ next - 1) (hn : 1 ≤ next) : 0 ≤ ackP next (l.map (·.1)) ∧ ackP next (l.map (·.1)) ≤ next - 1 := by
  cases l with
  | nil => simp only [List.map_nil, ackP]; omega
  | cons k t =>
    have h1 := hu.1
    have h2 := hm k (by simp)
    simp only [List.map_cons, ackP]
    omega

theorem ack_below {next : Int} {l : List PK} (hu : Up 0 l) : ∀ k ∈ l, ackP next (l.map (·.1)) < k.1 := by
  intro k hk
  cases l with
  | nil => simp at hk
  | cons y t =>
    simp only [List.map_cons, ackP]
    rcases List.mem_cons.1 hk with rfl | h
    · omega
    · have := Up.mem hu.2 k h
      omega

/-- Whatever is not above what is acknowledged does not wait. -/
theorem AskR.settled {a : PA} (h : AskR a) {r : Int} (hr : r ≤ a.2.2.1) : getG a.2.2.2 r = none := by
  cases hg : getG a.2.2.2 r with
  | none => rfl
  | some b =>
    have := ack_below (next := a.2.1) h.up _ (get_mem hg)
    rw [← h.ack] at this
    simp only at this
    omega

theorem up_full : ∀ (n : Nat) (lo : Int) (l : List PK), Up lo l → l.length = n → (∀ k ∈ l, k.1 ≤ lo + n) → ∀ r, lo < r → r ≤ lo + n → getG l r ≠ none := by
  intro n
  induction n with
  | zero => intro lo l _ _ _ r h1 h2; simp at h2; omega
  | succ n ih =>
    intro lo l hu hl hm r h1 h2
    cases l with
    | nil => simp at hl
    | cons y t =>
      have hlt : t.length = n := by simpa using hl
      have hy := hu.1
      -- the others have only as much room as they are many
      have hy1 : y.1 = lo + 1 := by
        rcases Int.lt_or_le (lo + 1) y.1 with h3 | h3
        · exfalso
          have room : ∀ (m : Nat) (b : Int) (s : List PK), Up b s → s.length = m → (∀ k ∈ s, k.1 ≤ lo + ((n + 1 : Nat) : Int)) → s ≠ [] → b + m ≤ lo + ((n + 1 : Nat) : Int) := by
            intro m
            induction m with
            | zero => intro b s _ hs _ hne; exact absurd (List.eq_nil_of_length_eq_zero hs) hne
            | succ m ihm =>
              intro b s hs hsl hsm _
              cases s with
              | nil => simp at hsl
              | cons z q =>
                have hz := hs.1
                have hzm := hsm z (by simp)
                by_cases hq : q = []
                · subst hq
                  simp at hsl
                  subst hsl
                  simp
                  omega
                · have := ihm z.1 q hs.2 (by simpa using hsl) (fun k hk => hsm k (by simp [hk])) hq
                  push_cast at this ⊢
                  omega
          by_cases ht : t = []
          · subst ht
            simp at hlt
            subst hlt
            have := hm y (by simp)
            simp at this
            omega
          · have := room n y.1 t hu.2 hlt (fun k hk => hm k (by simp [hk])) ht
            push_cast at this
            omega
        · omega
      simp only [getG]
      by_cases hry : y.1 = r
      · rw [if_pos hry]; simp
      · rw [if_neg hry]
        refine ih y.1 t hu.2 hlt (fun k hk => ?_) r (by omega) (by push_cast at h2; omega)
        have := hm k (by simp [hk])
        push_cast at this
        omega

/-- The two bytes of a number. -/
def two (n : Int) : List UInt8 := [UInt8.ofNat (n.toNat / 256), UInt8.ofNat n.toNat]

/-- Between one client and the server: the asker, what the server knows of it, which reply each request's doing made, which the client took. -/
structure CI (id : Int) (a : PA) (v : Int × List PK) (D F : Int → Int) : Prop where
  ask : AskR a
  aid : a.1 = id
  good : GoodC v
  floor : v.1 ≤ a.2.2.1
  kept : ∀ k ∈ v.2, k.1 ≤ v.1 + 8 ∧ k.2 = two (D k.1) ∧ D k.1 ≠ 0
  none_ : ∀ r, v.1 < r → getG v.2 r = none → D r = 0
  late : ∀ r, 1 ≤ r → r < a.2.1 → (F r = 0 ↔ (getG a.2.2.2 r).isSome = true)
  same : ∀ r, F r ≠ 0 → F r = D r
  above : ∀ r, a.2.1 ≤ r → D r = 0 ∧ F r = 0

/-- A request on its way. -/
def PkOk (a : PA) (r ak : Int) : Prop := 1 ≤ r ∧ r < a.2.1 ∧ 0 ≤ ak ∧ ak ≤ a.2.2.1 ∧ ak < r ∧ r ≤ ak + 8

theorem CI.begin_ (id : Int) (h : 1 ≤ id ∧ id ≤ MM) : CI id (id, 1, 0, []) (0, []) (fun _ => 0) (fun _ => 0) :=
  ⟨⟨h, by unfold MM; simp, trivial, by simp, rfl, by simp⟩, rfl, ⟨⟨by simp, by simp [MM]⟩, by simp, trivial, by simp⟩, by simp, by simp, fun _ _ _ => rfl, fun r h1 h2 => by simp at h2; omega, fun r h => absurd rfl h, fun _ _ => ⟨rfl, rfl⟩⟩

/-- What a client sends of what waits, is in order. -/
theorem CI.send {id : Int} {a : PA} {v : Int × List PK} {D F : Int → Int} (h : CI id a v D F) {r : Int} (hw : (getG a.2.2.2 r).isSome = true) : PkOk a r a.2.2.1 := by
  obtain ⟨b, hb⟩ := Option.isSome_iff_exists.1 hw
  have hm := get_mem hb
  have h1 := h.ask.most _ hm
  have h2 := Up.mem h.ask.up _ hm
  have h3 := ack_below (next := a.2.1) h.ask.up _ hm
  rw [← h.ask.ack] at h3
  have h4 := ack_low h.ask.up h.ask.most h.ask.next.1
  rw [← h.ask.ack] at h4
  have h5 := h.ask.win
  simp only at h1 h2 h3
  unfold PkOk
  omega

theorem getG_append {l : List PK} {r : Int} {x : PK} : getG (l ++ [x]) r = match getG l r with | some b => some b | none => if x.1 = r then some x.2 else none := by
  induction l with
  | nil => simp [getG]
  | cons y t ih =>
    simp only [List.cons_append, getG]
    by_cases h : y.1 = r
    · rw [if_pos h, if_pos h]
    · rw [if_neg h, if_neg h, ih]

theorem up_snoc : ∀ {lo : Int} {l : List PK} {x : PK}, Up lo l → (∀ k ∈ l, k.1 < x.1) → lo < x.1 → Up lo (l ++ [x])
  | lo, [], x, _, _, h => ⟨h, trivial⟩
  | lo, y :: t, x, hu, hm, h => ⟨hu.1, up_snoc hu.2 (fun k hk => hm k (by simp [hk])) (hm y (by simp))⟩

/-- Asking: refused because eight wait, or a new request that is sent in order. -/
theorem CI.asks {id : Int} {a : PA} {v : Int × List PK} {D F : Int → Int} (h : CI id a v D F) (body : List UInt8) (hb : body.length ≤ 65536) (hn : a.2.1 < 1000) :
    (∃ x k, askP a body = (x, k, 7)) ∨ (∃ a2, askP a body = (a2, a.2.1, 0) ∧ a2.2.1 = a.2.1 + 1 ∧ a2.2.2.1 = a.2.2.1 ∧ CI id a2 v D F ∧ PkOk a2 a.2.1 a2.2.2.1) := by
  have hr := (askR_iff a).2 h.ask
  have hack := ack_low h.ask.up h.ask.most h.ask.next.1
  rw [← h.ask.ack] at hack
  unfold askP
  rw [hr, if_neg (by simp), if_neg (by omega)]
  by_cases h8 : a.2.1 - 1 - a.2.2.1 = 8
  · left; rw [if_pos h8]; exact ⟨_, _, rfl⟩
  · right
    rw [if_neg h8, if_neg (by omega)]
    refine ⟨_, rfl, rfl, rfl, ⟨⟨h.ask.id, ?_, ?_, ?_, ?_, ?_⟩, h.aid, h.good, h.floor, h.kept, h.none_, ?_, h.same, ?_⟩, ?_⟩
    · have := h.ask.next; unfold MM; simp only; omega
    · exact up_snoc h.ask.up (fun k hk => by have := h.ask.most k hk; simp only; omega) (by have := h.ask.next; simp only; omega)
    · intro k hk
      simp only at hk ⊢
      rcases List.mem_append.1 hk with h1 | h1
      · have := h.ask.most k h1; omega
      · simp at h1; subst h1; simp only; omega
    · have e := h.ask.ack
      simp only
      cases hl : a.2.2.2 with
      | nil => rw [hl] at e; simp only [List.map_nil, ackP, List.nil_append, List.map_cons] at e ⊢; exact e
      | cons y t => rw [hl] at e; simp only [List.map_cons, ackP, List.cons_append] at e ⊢; exact e
    · have := h.ask.win; simp only; omega
    · intro r h1 h2
      simp only at h2 ⊢
      rw [getG_append]
      by_cases hrn : r = a.2.1
      · have hz := (h.above r (by omega)).2
        have hg : getG a.2.2.2 r = none := by
          cases hg : getG a.2.2.2 r with
          | none => rfl
          | some b => have := h.ask.most _ (get_mem hg); simp only at this; omega
        rw [hg]
        simp only [hz, true_iff]
        rw [if_pos hrn.symm]
        rfl
      · have hl := h.late r h1 (by omega)
        rw [hl]
        cases hg : getG a.2.2.2 r with
        | some b => simp
        | none => simp only; rw [if_neg (fun e => hrn e.symm)]
    · intro r h1
      simp only at h1
      exact h.above r (by omega)
    · unfold PkOk
      simp only
      have := h.ask.next
      have := h.ask.win
      omega

/-- A packet stays in order when the asker goes on. -/
theorem PkOk.on {a a2 : PA} {r ak : Int} (h : PkOk a r ak) (hn : a.2.1 ≤ a2.2.1) (hk : a.2.2.1 ≤ a2.2.2.1) : PkOk a2 r ak := by
  unfold PkOk at *
  omega

end Go.Proofs.Ythjggjjocfbjcaa
