/- What the document's right answers of a field. -/
import Derived.Test.YtkkdiciadkcmmaaAwake
namespace Go.Proofs.Ytkkdiciadkcmmaa
open Go.RowKit

theorem BoolIs.to {p q : Prop} {w v v' : World} {e : Ending} (h : BoolIs p v v' e) (hb : Below w.heap.size w v) (hpq : p ↔ q) : BoolIs q w v' e := by
  obtain ⟨r, rfl, hr, hb'⟩ := h
  exact ⟨r, rfl, hr.trans hpq, bnext hb hb'⟩

/-- SameField against a field that has nothing but what is named. -/
theorem same_only (tag kind : UInt8) (n n' : Int) (text text' : ByteArray) (ns ns' : List Int) (texts texts' : List ByteArray) (na na' ta ta' : Option Addr) (nc nc' tc tc' : Nat) (v : World) (hns : NAt v na ns) (hts : TAt v ta texts) (hns' : NAt v na' ns') (hts' : TAt v ta' texts') (hl1 : ns.length ≤ 9223372036854775807) (hl2 : texts.length ≤ 9223372036854775807) (h1 : Fits ⟨tag, kind, n, text, ns, texts⟩) (h2 : Fits ⟨tag, kind, n', text', ns', texts'⟩) :
    Calls Try.prog 19 #[.agg #[.int .u8 (tag.toNat : Int), .int .u8 (kind.toNat : Int), .int .i64 n, .string text, .slice na ns.length nc, .slice ta texts.length tc], .agg #[.int .u8 (tag.toNat : Int), .int .u8 (kind.toNat : Int), .int .i64 n', .string text', .slice na' ns'.length nc', .slice ta' texts'.length tc']] v fun e w' => BoolIs (n = n' ∧ text = text' ∧ ns = ns' ∧ texts = texts') v w' e := by
  refine (samefield_eqv ⟨⟨tag, kind, n, text, ns, texts⟩, na, nc, ta, tc⟩ ⟨⟨tag, kind, n', text', ns', texts'⟩, na', nc', ta', tc'⟩ v ⟨hns, hts, h1⟩ ⟨hns', hts', h2⟩ hl1 hl2).mono ?_
  intro e w' h
  refine h.to (Below.refl _ _) ?_
  unfold Eqv
  simp

set_option maxRecDepth 100000 in
set_option maxHeartbeats 1000000 in
theorem refright1 (tag : UInt8) (n : Int) (text : ByteArray) (ns : List Int) (texts : List ByteArray) (na ta : Option Addr) (nc tc : Nat) (w : World) (hns : NAt w na ns) (hts : TAt w ta texts) (hl1 : ns.length ≤ 9223372036854775807) (hl2 : texts.length ≤ 9223372036854775807) (hf : Fits ⟨tag, 1, n, text, ns, texts⟩) :
    Calls Try.prog 40 #[.agg #[.int .u8 (tag.toNat : Int), .int .u8 1, .int .i64 n, .string text, .slice na ns.length nc, .slice ta texts.length tc]] w fun e w' => BoolIs (Good ⟨tag, 1, n, text, ns, texts⟩) w w' e := by
  have hiff : ((n ≠ 0) ∧ (n = n ∧ text = ByteArray.empty ∧ ns = [] ∧ texts = [])) ↔ Good ⟨tag, 1, n, text, ns, texts⟩ := by
    unfold Good
    simp
  replace hiff := hid hiff
  have hcall : ∀ (v : World), Below w.heap.size w v → Calls Try.prog 19 #[.agg #[.int .u8 (tag.toNat : Int), .int .u8 1, .int .i64 n, .string text, .slice na ns.length nc, .slice ta texts.length tc], .agg #[.int .u8 (tag.toNat : Int), .int .u8 1, .int .i64 n, .string ⟨#[]⟩, .slice none 0 0, .slice none 0 0]] v fun e w' => BoolIs (n = n ∧ text = ByteArray.empty ∧ ns = [] ∧ texts = []) v w' e := fun v hb => same_only tag 1 n n text ByteArray.empty ns [] texts [] na none ta none nc 0 tc 0 v (CAt.below hns hb) (CAt.below hts hb) (CAt.nil _ _) (CAt.nil _ _) hl1 hl2 hf ⟨hf.1, by simp⟩
  replace hcall := hid hcall
  by_cases h0 : n = 0
  · have e0 : (n != 0) = false := by rw [h0]; rfl
    have hno : ¬ Good ⟨tag, 1, n, text, ns, texts⟩ := fun g => (hiff.out.2 g).1 h0
    replace hno := hid hno
    replace h0 := hid h0
    go_enter Try.func40, Try.ntmps40
    go_wp2
    go_ret
    exact BoolIs.of false (ff_iff hno.out) (bnext (below_lit w _) (below_lit _ _))
  · have e0 : (n != 0) = true := by rw [bne_iff_ne]; exact h0
    have hg := hid h0
    replace h0 := hid h0
    go_enter Try.func40, Try.ntmps40
    go_wp2_with fail
    refine (hcall.out _ (bnext (below_lit w _) (below_lit _ _))).mono ?_
    intro e w2 hB
    obtain ⟨r, rfl, hr, hb2⟩ := hB
    replace hr := hid hr
    replace hb2 := bnext (bnext (below_lit w _) (below_lit _ _)) hb2
    go_wp2
    go_ret
    exact BoolIs.of r ⟨fun e => hiff.out.1 ⟨hg.out, hr.out.1 e⟩, fun g => hr.out.2 (hiff.out.2 g).2⟩ hb2

set_option maxRecDepth 100000 in
set_option maxHeartbeats 1000000 in
theorem refright2 (tag : UInt8) (n : Int) (text : ByteArray) (ns : List Int) (texts : List ByteArray) (na ta : Option Addr) (nc tc : Nat) (w : World) (hns : NAt w na ns) (hts : TAt w ta texts) (hl1 : ns.length ≤ 9223372036854775807) (hl2 : texts.length ≤ 9223372036854775807) (hf : Fits ⟨tag, 2, n, text, ns, texts⟩) :
    Calls Try.prog 40 #[.agg #[.int .u8 (tag.toNat : Int), .int .u8 2, .int .i64 n, .string text, .slice na ns.length nc, .slice ta texts.length tc]] w fun e w' => BoolIs (Good ⟨tag, 2, n, text, ns, texts⟩) w w' e := by
  have hiff : ((text ≠ ByteArray.empty ∧ text.size ≤ 65535) ∧ (n = 0 ∧ text = text ∧ ns = [] ∧ texts = [])) ↔ Good ⟨tag, 2, n, text, ns, texts⟩ := by
    unfold Good
    simp
    constructor
    · rintro h; simp_all
    · rintro h; simp_all
  replace hiff := hid hiff
  have hcall : ∀ (v : World), Below w.heap.size w v → Calls Try.prog 19 #[.agg #[.int .u8 (tag.toNat : Int), .int .u8 2, .int .i64 n, .string text, .slice na ns.length nc, .slice ta texts.length tc], .agg #[.int .u8 (tag.toNat : Int), .int .u8 2, .int .i64 0, .string text, .slice none 0 0, .slice none 0 0]] v fun e w' => BoolIs (n = 0 ∧ text = text ∧ ns = [] ∧ texts = []) v w' e := fun v hb => same_only tag 2 n 0 text text ns [] texts [] na none ta none nc 0 tc 0 v (CAt.below hns hb) (CAt.below hts hb) (CAt.nil _ _) (CAt.nil _ _) hl1 hl2 hf ⟨by unfold In64; simp, by simp⟩
  replace hcall := hid hcall
  by_cases h0 : text = ByteArray.empty
  · have e0 : text.toList.isEmpty = true := by rw [(text_nil text).2 h0]; rfl
    have hno : ¬ Good ⟨tag, 2, n, text, ns, texts⟩ := fun g => (hiff.out.2 g).1.1 h0
    replace hno := hid hno
    replace h0 := hid h0
    go_enter Try.func40, Try.ntmps40
    go_wp2
    go_ret
    exact BoolIs.of false (ff_iff hno.out) (bnext (below_lit w _) (below_lit _ _))
  · have e0 : text.toList.isEmpty = false := by
      rw [List.isEmpty_eq_false_iff]; exact fun e => h0 ((text_nil text).1 e)
    by_cases h1 : text.size ≤ 65535
    · have hg := hid (And.intro h0 h1)
      replace h0 := hid h0
      go_enter Try.func40, Try.ntmps40
      go_wp2_with fail
      refine (hcall.out _ (bnext (below_lit w _) (below_lit _ _))).mono ?_
      intro e w2 hB
      obtain ⟨r, rfl, hr, hb2⟩ := hB
      replace hr := hid hr
      replace hb2 := bnext (bnext (below_lit w _) (below_lit _ _)) hb2
      go_wp2
      go_ret
      exact BoolIs.of r ⟨fun e => hiff.out.1 ⟨hg.out, hr.out.1 e⟩, fun g => hr.out.2 (hiff.out.2 g).2⟩ hb2
    · have h2 : 65535 < text.size := by omega
      have hno : ¬ Good ⟨tag, 2, n, text, ns, texts⟩ := fun g => h1 (hiff.out.2 g).1.2
      replace hno := hid hno
      replace h0 := hid h0
      replace h1 := hid h1
      go_enter Try.func40, Try.ntmps40
      go_wp2
      go_ret
      exact BoolIs.of false (ff_iff hno.out) (bnext (below_lit w _) (below_lit _ _))

set_option maxRecDepth 100000 in
set_option maxHeartbeats 1000000 in
theorem refright3 (tag : UInt8) (n : Int) (text : ByteArray) (ns : List Int) (texts : List ByteArray) (na ta : Option Addr) (nc tc : Nat) (w : World) (hns : NAt w na ns) (hts : TAt w ta texts) (hl1 : ns.length ≤ 9223372036854775807) (hl2 : texts.length ≤ 9223372036854775807) (hf : Fits ⟨tag, 3, n, text, ns, texts⟩) :
    Calls Try.prog 40 #[.agg #[.int .u8 (tag.toNat : Int), .int .u8 3, .int .i64 n, .string text, .slice na ns.length nc, .slice ta texts.length tc]] w fun e w' => BoolIs (Good ⟨tag, 3, n, text, ns, texts⟩) w w' e := by
  have hiff : ((ns ≠ [] ∧ ns.length ≤ 256) ∧ (n = 0 ∧ text = ByteArray.empty ∧ ns = ns ∧ texts = [])) ↔ Good ⟨tag, 3, n, text, ns, texts⟩ := by
    unfold Good
    simp
    constructor
    · rintro h; simp_all
    · rintro h; simp_all
  replace hiff := hid hiff
  have hcall : ∀ (v : World), Below w.heap.size w v → Calls Try.prog 19 #[.agg #[.int .u8 (tag.toNat : Int), .int .u8 3, .int .i64 n, .string text, .slice na ns.length nc, .slice ta texts.length tc], .agg #[.int .u8 (tag.toNat : Int), .int .u8 3, .int .i64 0, .string ⟨#[]⟩, .slice na ns.length nc, .slice none 0 0]] v fun e w' => BoolIs (n = 0 ∧ text = ByteArray.empty ∧ ns = ns ∧ texts = []) v w' e := fun v hb => same_only tag 3 n 0 text ByteArray.empty ns ns texts [] na na ta none nc nc tc 0 v (CAt.below hns hb) (CAt.below hts hb) (CAt.below hns hb) (CAt.nil _ _) hl1 hl2 hf ⟨by unfold In64; simp, hf.2⟩
  replace hcall := hid hcall
  by_cases h0 : ns.length = 0
  · have hno : ¬ Good ⟨tag, 3, n, text, ns, texts⟩ := fun g => (hiff.out.2 g).1.1 (List.eq_nil_of_length_eq_zero h0)
    replace hno := hid hno
    have e1 : ns.length < 1 := by omega
    replace h0 := hid h0
    go_enter Try.func40, Try.ntmps40
    go_wp2
    go_ret
    exact BoolIs.of false (ff_iff hno.out) (bnext (below_lit w _) (below_lit _ _))
  · have e1 : 1 ≤ ns.length := by omega
    by_cases h1 : ns.length ≤ 256
    · have hg := hid (And.intro (show ns ≠ [] from fun e => h0 (by rw [e]; rfl)) h1)
      replace h0 := hid h0
      go_enter Try.func40, Try.ntmps40
      go_wp2_with fail
      refine (hcall.out _ (bnext (below_lit w _) (below_lit _ _))).mono ?_
      intro e w2 hB
      obtain ⟨r, rfl, hr, hb2⟩ := hB
      replace hr := hid hr
      replace hb2 := bnext (bnext (below_lit w _) (below_lit _ _)) hb2
      go_wp2
      go_ret
      exact BoolIs.of r ⟨fun e => hiff.out.1 ⟨hg.out, hr.out.1 e⟩, fun g => hr.out.2 (hiff.out.2 g).2⟩ hb2
    · have h2 : 256 < ns.length := by omega
      have hno : ¬ Good ⟨tag, 3, n, text, ns, texts⟩ := fun g => h1 (hiff.out.2 g).1.2
      replace hno := hid hno
      replace h0 := hid h0
      replace h1 := hid h1
      go_enter Try.func40, Try.ntmps40
      go_wp2
      go_ret
      exact BoolIs.of false (ff_iff hno.out) (bnext (below_lit w _) (below_lit _ _))

end Go.Proofs.Ytkkdiciadkcmmaa
