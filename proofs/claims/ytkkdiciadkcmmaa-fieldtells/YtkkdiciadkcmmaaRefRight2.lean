/- What the document's right answers of texts, and of whatever field; what its Get answers. -/
import Derived.Test.YtkkdiciadkcmmaaRefRight
namespace Go.Proofs.Ytkkdiciadkcmmaa
open Go.RowKit

set_option maxRecDepth 100000 in
set_option maxHeartbeats 1000000 in
theorem refright4 (tag : UInt8) (n : Int) (text : ByteArray) (ns : List Int) (texts : List ByteArray) (na ta : Option Addr) (nc tc : Nat) (w : World) (hns : NAt w na ns) (hts : TAt w ta texts) (hl1 : ns.length ≤ 9223372036854775807) (hl2 : texts.length ≤ 9223372036854775807) (hf : Fits ⟨tag, 4, n, text, ns, texts⟩) :
    Calls Try.prog 40 #[.agg #[.int .u8 (tag.toNat : Int), .int .u8 4, .int .i64 n, .string text, .slice na ns.length nc, .slice ta texts.length tc]] w fun e w' => BoolIs (Good ⟨tag, 4, n, text, ns, texts⟩) w w' e := by
  have hiff : ((texts ≠ [] ∧ texts.length ≤ 256 ∧ ∀ s ∈ texts, s.size ≤ 65535) ∧ (n = 0 ∧ text = ByteArray.empty ∧ ns = [] ∧ texts = texts)) ↔ Good ⟨tag, 4, n, text, ns, texts⟩ := by
    unfold Good
    simp
    constructor
    · rintro h; simp_all
    · rintro h; simp_all
  replace hiff := hid hiff
  have hcall : ∀ (v : World), Below w.heap.size w v → Calls Try.prog 19 #[.agg #[.int .u8 (tag.toNat : Int), .int .u8 4, .int .i64 n, .string text, .slice na ns.length nc, .slice ta texts.length tc], .agg #[.int .u8 (tag.toNat : Int), .int .u8 4, .int .i64 0, .string ⟨#[]⟩, .slice none 0 0, .slice ta texts.length tc]] v fun e w' => BoolIs (n = 0 ∧ text = ByteArray.empty ∧ ns = [] ∧ texts = texts) v w' e := fun v hb => same_only tag 4 n 0 text ByteArray.empty ns [] texts texts na none ta ta nc 0 tc tc v (CAt.below hns hb) (CAt.below hts hb) (CAt.nil _ _) (CAt.below hts hb) hl1 hl2 hf ⟨by unfold In64; simp, by simp⟩
  replace hcall := hid hcall
  obtain ⟨tl, htl⟩ : ∃ tl, tl = texts.length := ⟨_, rfl⟩
  rw [← htl] at hcall hl2 hiff ⊢
  replace htl := hid htl
  go_enter Try.func40, Try.ntmps40
  go_wp2
  go_loop [4] (fun i => ∃ j : Nat, j ≤ tl ∧ i = .int .i64 j ∧ ∀ q (hq : q < texts.length), q < j → texts[q].size ≤ 65535) (fun i => tl - (intOf i).toNat)
  case atStart => exact ⟨0, Nat.zero_le _, rfl, fun q _ hq => by omega⟩
  case round =>
    obtain ⟨j, hj, rfl, hall⟩ := hrel
    have hq0 := htl.out
    by_cases hlt : j < tl
    · obtain ⟨b, o, rfl, hc⟩ := TAt.form hts (by intro e; subst e; simp at hq0; omega)
      have hcj := hc j (by omega)
      have hblt : b < w.heap.size := World.block_lt_of_cell? w _ hcj
      clear hc
      by_cases hs : (texts[j]'(by omega)).size ≤ 65535
      · have hall' : ∀ q (hq : q < texts.length), q < j + 1 → texts[q].size ≤ 65535 := fun q hq hqj => by
          rcases Nat.lt_or_ge q j with h | h
          · exact hall q hq h
          · obtain rfl : q = j := by omega
            exact hs
        replace hall := hid hall
        replace hall' := hid hall'
        replace hq0 := hid hq0
        generalize texts[j]'(by have := hq0.out; omega) = x at *
        go_wp2
        go_round
        case rel => exact ⟨j + 1, by omega, by go_num, hall'.out⟩
        case measure => simp [intOf]; omega
      · have hs' : 65535 < (texts[j]'(by omega)).size := by omega
        have hno : ¬ Good ⟨tag, 4, n, text, ns, texts⟩ := fun g => hs ((hiff.out.2 g).1.2.2 _ (List.getElem_mem _))
        replace hno := hid hno
        replace hs := hid hs
        replace hall := hid hall
        replace hq0 := hid hq0
        generalize texts[j]'(by have := hq0.out; omega) = x at *
        go_wp2
        go_ret
        exact BoolIs.of false (ff_iff hno.out) (bnext (below_lit w _) (below_lit _ _))
    · obtain rfl : j = tl := by omega
      have hsz : ∀ s ∈ texts, s.size ≤ 65535 := fun s hs => by
        obtain ⟨q, hq, rfl⟩ := List.getElem_of_mem hs
        exact hall q hq (by omega)
      replace hall := hid hall
      by_cases h0 : j = 0
      · have hno : ¬ Good ⟨tag, 4, n, text, ns, texts⟩ := fun g => (hiff.out.2 g).1.1 (List.eq_nil_of_length_eq_zero (by omega))
        have e1 : j < 1 := by omega
        replace hno := hid hno
        replace h0 := hid h0
        replace hq0 := hid hq0
        go_wp2
        go_ret
        exact BoolIs.of false (ff_iff hno.out) (bnext (below_lit w _) (below_lit _ _))
      · have e1 : 1 ≤ j := by omega
        by_cases h1 : j ≤ 256
        · have hg := hid (And.intro (show texts ≠ [] from fun e => h0 (by rw [hq0, e]; rfl)) (And.intro h1 hsz))
          replace h0 := hid h0
          replace hq0 := hid hq0
          replace hsz := hid hsz
          go_wp2_with fail
          refine (hcall.out _ (bnext (below_lit w _) (below_lit _ _))).mono ?_
          intro e w2 hB
          obtain ⟨r, rfl, hr, hb2⟩ := hB
          replace hr := hid hr
          replace hb2 := bnext (bnext (below_lit w _) (below_lit _ _)) hb2
          go_wp2
          go_ret
          exact BoolIs.of r ⟨fun e => hiff.out.1 ⟨hg.out, hr.out.1 e⟩, fun g => hr.out.2 (hiff.out.2 g).2⟩ hb2
        · have h2 : 256 < j := by omega
          have hno : ¬ Good ⟨tag, 4, n, text, ns, texts⟩ := fun g => h1 (hiff.out.2 g).1.2.1
          replace hno := hid hno
          replace h0 := hid h0
          replace h1 := hid h1
          replace hq0 := hid hq0
          go_wp2
          go_ret
          exact BoolIs.of false (ff_iff hno.out) (bnext (below_lit w _) (below_lit _ _))

set_option maxRecDepth 100000 in
set_option maxHeartbeats 1000000 in
theorem refright0 (tag kind : UInt8) (n : Int) (text : ByteArray) (ns : List Int) (texts : List ByteArray) (na ta : Option Addr) (nc tc : Nat) (w : World) (h1 : kind ≠ 1) (h2 : kind ≠ 2) (h3 : kind ≠ 3) (h4 : kind ≠ 4) :
    Calls Try.prog 40 #[.agg #[.int .u8 (tag.toNat : Int), .int .u8 (kind.toNat : Int), .int .i64 n, .string text, .slice na ns.length nc, .slice ta texts.length tc]] w fun e w' => BoolIs (Good ⟨tag, kind, n, text, ns, texts⟩) w w' e := by
  have e1 : ((kind.toNat : Int) == 1) = false := kind_ne kind 1 h1
  have e2 : ((kind.toNat : Int) == 2) = false := kind_ne kind 2 h2
  have e3 : ((kind.toNat : Int) == 3) = false := kind_ne kind 3 h3
  have e4 : ((kind.toNat : Int) == 4) = false := kind_ne kind 4 h4
  have hno : ¬ Good ⟨tag, kind, n, text, ns, texts⟩ := fun g => by
    rcases g.kinds with h | h | h | h
    · exact h1 h
    · exact h2 h
    · exact h3 h
    · exact h4 h
  replace hno := hid hno
  clear h1 h2 h3 h4
  go_enter Try.func40, Try.ntmps40
  go_wp2
  go_ret
  exact BoolIs.of false (ff_iff hno.out) (bnext (below_lit w _) (below_lit _ _))

theorem refright_any (i : It) (w : World) (hi : ItAt w i) (hs : Short i) : Calls Try.prog 40 #[i.val] w fun e w' => BoolIs (Good i.fd) w w' e := by
  obtain ⟨⟨tag, kind, n, text, ns, texts⟩, na, nc, ta, tc⟩ := i
  by_cases h1 : kind = 1
  · subst h1; exact refright1 tag n text ns texts na ta nc tc w hi.ns hi.ts hs.1 hs.2 hi.fit
  · by_cases h2 : kind = 2
    · subst h2; exact refright2 tag n text ns texts na ta nc tc w hi.ns hi.ts hs.1 hs.2 hi.fit
    · by_cases h3 : kind = 3
      · subst h3; exact refright3 tag n text ns texts na ta nc tc w hi.ns hi.ts hs.1 hs.2 hi.fit
      · by_cases h4 : kind = 4
        · subst h4; exact refright4 tag n text ns texts na ta nc tc w hi.ns hi.ts hs.1 hs.2 hi.fit
        · exact refright0 tag kind n text ns texts na ta nc tc w h1 h2 h3 h4

end Go.Proofs.Ytkkdiciadkcmmaa
