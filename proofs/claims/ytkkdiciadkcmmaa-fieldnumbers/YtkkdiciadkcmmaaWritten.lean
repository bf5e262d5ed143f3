/- What written answers of a right field: its bytes, in memory of their own. -/
import Derived.Test.YtkkdiciadkcmmaaSize
namespace Go.Proofs.Ytkkdiciadkcmmaa
open Go.RowKit

theorem add64_of (a : Option Addr) (cap len : Nat) (n : Int) (X : Int) (l : List UInt8) (w : World) (hX : X = (u64 n : Int)) (hl : l.length = len) (hlen : len ≤ 140737488355328) (hat : At w a l) :
    Calls Try.prog 45 #[.slice a len cap, .int .u64 X] w fun e w' => ∃ g, e = .returned (.slice (some ⟨g, 0, none⟩) (len + 8) (len + 8)) ∧ w.heap.size ≤ g ∧ Row w' g (l ++ be 8 (u64 n)) ∧ Below w.heap.size w w' := by
  subst hX
  refine (add64_any a cap len (u64 n) l w hl hlen (u64_lt n) hat).mono ?_
  rintro e w' ⟨rfl, h1, h2⟩
  exact ⟨_, rfl, Nat.le_refl _, h1, h2⟩

theorem add16_of (a : Option Addr) (cap len v : Nat) (X : Int) (l : List UInt8) (w : World) (hX : X = (v : Int)) (hv : v < 65536) (hl : l.length = len) (hlen : len ≤ 140737488355328) (hat : At w a l) :
    Calls Try.prog 47 #[.slice a len cap, .int .u16 X] w fun e w' => ∃ g, e = .returned (.slice (some ⟨g, 0, none⟩) (len + 2) (len + 2)) ∧ w.heap.size ≤ g ∧ Row w' g (l ++ be 2 v) ∧ Below w.heap.size w w' := by
  subst hX
  refine (add16_any a cap len v l w hl hlen hv hat).mono ?_
  rintro e w' ⟨rfl, h1, h2⟩
  exact ⟨_, rfl, Nat.le_refl _, h1, h2⟩

theorem add8_of (a : Option Addr) (cap len : Nat) (v : UInt8) (l : List UInt8) (w : World) (hl : l.length = len) (hlen : len ≤ 140737488355328) (hat : At w a l) :
    Calls Try.prog 27 #[.slice a len cap, .int .u8 (v.toNat : Int)] w fun e w' => ∃ g, e = .returned (.slice (some ⟨g, 0, none⟩) (len + 1) (len + 1)) ∧ w.heap.size ≤ g ∧ Row w' g (l ++ [v]) ∧ Below w.heap.size w w' := by
  refine (add8_any a cap len v.toNat l w hl hlen v.toNat_lt hat).mono ?_
  rintro e w' ⟨rfl, h1, h2⟩
  rw [be_one] at h1
  exact ⟨_, rfl, Nat.le_refl _, h1, h2⟩

theorem addtext_of (a : Option Addr) (cap len : Nat) (l : List UInt8) (s : ByteArray) (w : World) (hl : l.length = len) (hlen : len ≤ 281474976600000) (hs : s.size ≤ 65535) (hat : At w a l) :
    Calls Try.prog 46 #[.slice a len cap, .string s] w fun e w' => ∃ g, e = .returned (.tuple #[.slice (some ⟨g, 0, none⟩) (len + (2 + s.size)) (len + (2 + s.size)), .int .i64 0]) ∧ w.heap.size ≤ g ∧ Row w' g (l ++ be 2 s.size ++ s.data.toList) ∧ Below w.heap.size w w' := by
  refine (addtext_yes a cap len l s w hl hlen hs hat).mono ?_
  rintro e w' ⟨rfl, h1, h2⟩
  exact ⟨_, rfl, Nat.le_refl _, h1, h2⟩

theorem u64_wrap (n : Int) : IntKind.u64.wrap n = (u64 n : Int) := by rw [IntKind.wrap_u64]; unfold u64; omega

theorem bytes1 (f : Fd) (h : f.kind = 1) : bytesF f = [f.tag, f.kind] ++ be 8 (u64 f.n) := by simp [bytesF, bodyF, encN, h]
theorem bytes2 (f : Fd) (h : f.kind = 2) : bytesF f = [f.tag, f.kind] ++ be 2 f.text.size ++ f.text.data.toList := by simp [bytesF, bodyF, encT, h]
theorem bytes3 (f : Fd) (h : f.kind = 3) : bytesF f = [f.tag, f.kind] ++ be 2 f.ns.length ++ f.ns.flatMap encN := by simp [bytesF, bodyF, h]
theorem bytes4 (f : Fd) (h : f.kind = 4) : bytesF f = [f.tag, f.kind] ++ be 2 f.texts.length ++ f.texts.flatMap encT := by simp [bytesF, bodyF, h]

set_option maxRecDepth 100000 in
set_option maxHeartbeats 4000000 in
theorem written_raw (tag kind : UInt8) (n0 : Int) (text : ByteArray) (ns : List Int) (texts : List ByteArray) (na ta : Option Addr) (nc tc : Nat) (w : World) (hns : NAt w na ns) (hts : TAt w ta texts) (hg : Good ⟨tag, kind, n0, text, ns, texts⟩) :
    Calls Try.prog 28 #[.agg #[.int .u8 (tag.toNat : Int), .int .u8 (kind.toNat : Int), .int .i64 n0, .string text, .slice na ns.length nc, .slice ta texts.length tc]] w fun e w' => ∃ v, e = .returned v ∧ Own w' w.heap.size v (bytesF ⟨tag, kind, n0, text, ns, texts⟩) ∧ Below w.heap.size w w' := by
  have hfW : FBlk (w.alloc (.cells #[.int .u8 (tag.toNat : Int), .int .u8 (kind.toNat : Int), .int .i64 n0, .string text, .slice na ns.length nc, .slice ta texts.length tc] 30)).drew w.heap.size ⟨⟨tag, kind, n0, text, ns, texts⟩, na, nc, ta, tc⟩ := FBlk.new w ⟨⟨tag, kind, n0, text, ns, texts⟩, na, nc, ta, tc⟩
  have hbW : Below w.heap.size w (w.alloc (.cells #[.int .u8 (tag.toNat : Int), .int .u8 (kind.toNat : Int), .int .i64 n0, .string text, .slice na ns.length nc, .slice ta texts.length tc] 30)).drew := (below_lit w _).drew
  have hcall := add8_of none 0 0 tag [] (w.alloc (.cells #[.int .u8 (tag.toNat : Int), .int .u8 (kind.toNat : Int), .int .i64 n0, .string text, .slice na ns.length nc, .slice ta texts.length tc] 30)).drew rfl (by omega) (at_nil _ _)
  rw [List.nil_append] at hcall
  have hcall2 : ∀ g w1, Row w1 g [tag] → Calls Try.prog 27 #[.slice (some ⟨g, 0, none⟩) 1 1, .int .u8 (kind.toNat : Int)] w1 fun e w' => ∃ g', e = .returned (.slice (some ⟨g', 0, none⟩) 2 2) ∧ w1.heap.size ≤ g' ∧ Row w' g' [tag, kind] ∧ Below w1.heap.size w1 w' := fun g w1 h => add8_of (some ⟨g, 0, none⟩) 1 1 kind [tag] w1 rfl (by omega) h.at
  go_enter Try.func28, Try.ntmps28
  go_wp2_with fail
  go_cut [3] (fun t3 wx => ∃ g, t3 = .slice (some ⟨g, 0, none⟩) 2 2 ∧ w.heap.size ≤ g ∧ Row wx g [tag, kind] ∧ Below w.heap.size w wx ∧ FBlk wx w.heap.size ⟨⟨tag, kind, n0, text, ns, texts⟩, na, nc, ta, tc⟩)
  case first =>
    go_region_law (first
      | (refine step_call rfl 27 _ _ rfl Try.f27 Try.func27 (by kernel_rfl) (by kernel_rfl) #[.slice none 0 0, .int .u8 (tag.toNat : Int)] (by simp [Act.eval]) hcall ?_; rintro e w1 ⟨g1, rfl, hg1, hr1, hb1⟩; refine ⟨_, rfl, ?_⟩; have hf1 := hfW.below hb1; have hf1c := hf1.six.c1; have hb1' := bnext hbW hb1)
      | (refine step_call rfl 27 _ _ rfl Try.f27 Try.func27 (by kernel_rfl) (by kernel_rfl) #[.slice (some ⟨g1, 0, none⟩) 1 1, .int .u8 (kind.toNat : Int)] (by simp [Act.eval]) (hcall2 g1 _ hr1) ?_; rintro e w2 ⟨g2, rfl, hg2, hr2, hb2⟩; refine ⟨_, rfl, ?_⟩; have hf2 := hf1.below hb2; have hb2' := bnext hb1' hb2))
    all_goals
      go_wp2_with fail
      go_meet
      exact ⟨g2, rfl, Nat.le_trans hb1'.size hg2, hr2, hb2', hf2⟩
  case rest =>
    obtain ⟨g, rfl, hg0, hr, hb, hf⟩ := hcut
    obtain ⟨f0, f1, f2, f3, f4, f5⟩ := hf.six
    dsimp only at f0 f1 f2 f3 f4 f5
    clear hcall hcall2 hfW hbW
    rcases hg with ⟨ek, _⟩ | ⟨ek, _, _, h2, _⟩ | ⟨ek, _, _, _, h3, _⟩ | ⟨ek, _, _, _, _, h5, h6⟩ <;> dsimp only at *
    · have hB := hid (bytes1 ⟨tag, kind, n0, text, ns, texts⟩ ek)
      dsimp only at hB
      rw [ek] at f1
      replace ek := hid ek
      have hX : IntKind.u64.wrap n0 = (u64 n0 : Int) := u64_wrap _
      go_wp2_with fail
      refine (add64_of _ _ 2 n0 _ [tag, kind] _ (by first | rfl | exact hX | omega) rfl (by omega) hr.at).mono ?_
      rintro e w2 ⟨g2, rfl, hg2, hr2, hb2⟩
      go_wp2
      go_ret
      exact ⟨_, rfl, by rw [hB.out]; exact hr2.own (by simp [be_length]) (Nat.le_trans hb.size hg2) (by omega), bnext hb hb2⟩
    · have hB := hid (bytes2 ⟨tag, kind, n0, text, ns, texts⟩ ek)
      dsimp only at hB
      rw [ek] at f1
      replace ek := hid ek
      go_wp2_with fail
      refine (addtext_of _ _ 2 [tag, kind] text _ rfl (by omega) h2 hr.at).mono ?_
      rintro e w2 ⟨g2, rfl, hg2, hr2, hb2⟩
      go_wp2
      go_ret
      exact ⟨_, rfl, by rw [hB.out]; exact hr2.own (by simp [be_length]; omega) (Nat.le_trans hb.size hg2) (by omega), bnext hb hb2⟩
    · have hB := hid (bytes3 ⟨tag, kind, n0, text, ns, texts⟩ ek)
      dsimp only at hB
      rw [ek] at f1
      replace ek := hid ek
      obtain ⟨nl, hnl⟩ : ∃ nl, nl = ns.length := ⟨_, rfl⟩
      rw [← hnl] at f4 h3 hB
      replace hnl := hid hnl
      go_wp2_with fail
      refine (add16_of _ _ 2 nl _ [tag, kind] _ (by omega) (by omega) rfl (by omega) hr.at).mono ?_
      rintro e w2 ⟨g2, rfl, hg2, hr2, hb2⟩
      obtain ⟨d0, d1, d2, d3, d4, d5⟩ := (hf.below hb2).six
      dsimp only at d0 d1 d2 d3 d4 d5
      rw [← hnl.out] at d4
      have ho2 := hr2.own (base := w.heap.size) (n := 4) (by simp [be_length]) (Nat.le_trans hb.size hg2) (by omega)
      replace hb2 := bnext hb hb2
      have hns' := hns
      obtain ⟨P, hP⟩ : ∃ P, P = [tag, kind] ++ be 2 nl := ⟨_, rfl⟩
      have hPl : P.length = 4 := by rw [hP]; simp [be_length]
      rw [← hP] at ho2 hB
      replace hP := hid hP
      replace hPl := hid hPl
      clear hf hr hr2 hns hts
      go_wp2
      go_loopw [3, 45] (fun s i wr => ∃ j : Nat, j ≤ nl ∧ i = .int .i64 j ∧ Own wr w.heap.size s (P ++ (ns.take j).flatMap encN) ∧ Below w.heap.size w wr) (fun _ i _ => nl - (intOf i).toNat)
      case atStart => exact ⟨0, Nat.zero_le _, rfl, by simpa using ho2, hb2⟩
      case round =>
        obtain ⟨j, hj, rfl, ho, hbr⟩ := hrel
        obtain ⟨av, cv, rfl, _, _⟩ := ho.form
        by_cases hlt : j < nl
        · obtain ⟨b, o, rfl, hc⟩ := NAt.form (CAt.below hns' hbr) (by intro e; subst e; have := hnl.out; simp at this; omega)
          have hcj := hc j (by have := hnl.out; omega)
          have hsn := flatN_snoc ns j (by have := hnl.out; omega)
          have hX := u64_wrap (ns[j]'(by have := hnl.out; omega))
          have hLl : (P ++ (ns.take j).flatMap encN).length = 4 + 8 * j := by
            rw [List.length_append, flatN_len, hPl.out, List.length_take]; have := hnl.out; omega
          clear hc
          generalize ns[j]'(by have := hnl.out; omega) = x at *
          replace hsn : P ++ (ns.take (j + 1)).flatMap encN = (P ++ (ns.take j).flatMap encN) ++ encN x := by rw [hsn, List.append_assoc]
          generalize P ++ (ns.take j).flatMap encN = L at *
          replace hsn := hid hsn
          replace hLl := hid hLl
          go_wp2_with fail
          refine (add64_of none 0 0 x _ [] _ (by first | rfl | exact hX | omega) rfl (by omega) (at_nil _ _)).mono ?_
          rintro e w3 ⟨g3, rfl, hg3, hr3, hb3⟩
          rw [List.nil_append] at hr3
          have hr3' : Row w3 g3 (encN x) := hr3
          have ho3 := ho.below hb3
          replace hb3 := bnext hbr hb3
          have hz3 := hb3.size
          go_wp2_with (at_builtin; refine wpList_app _ rfl (.tmp 49) (.tmp 52) rfl rfl w.heap.size _ L (encN x) rfl ho3 (some ⟨g3, 0, none⟩) 8 8 rfl (encN_len _) hr3'.at (by have := hLl.out; omega) hz3 ?_; intro v4 w4 ho4 hb4)
          obtain ⟨a4, c4, rfl, _, _⟩ := ho4.form
          go_wp2
          go_roundw
          case rel => exact ⟨j + 1, by omega, by go_num, by rw [hsn.out]; exact ho4, hb3.trans hb4⟩
          case measure => simp [intOf]; omega
        · obtain rfl : j = nl := by omega
          have hfin : ns.take j = ns := by rw [hnl.out, List.take_length]
          rw [hfin] at ho ⊢
          go_wp2
          go_ret
          refine ⟨_, rfl, ?_, hbr⟩
          rw [hB.out]
          exact ho
    · have hB := hid (bytes4 ⟨tag, kind, n0, text, ns, texts⟩ ek)
      dsimp only at hB
      rw [ek] at f1
      replace ek := hid ek
      obtain ⟨nl, hnl⟩ : ∃ nl, nl = texts.length := ⟨_, rfl⟩
      rw [← hnl] at f5 h5 hB
      replace hnl := hid hnl
      go_wp2_with fail
      refine (add16_of _ _ 2 nl _ [tag, kind] _ (by omega) (by omega) rfl (by omega) hr.at).mono ?_
      rintro e w2 ⟨g2, rfl, hg2, hr2, hb2⟩
      obtain ⟨d0, d1, d2, d3, d4, d5⟩ := (hf.below hb2).six
      dsimp only at d0 d1 d2 d3 d4 d5
      rw [← hnl.out] at d5
      have ho2 := hr2.own (base := w.heap.size) (n := 4) (by simp [be_length]) (Nat.le_trans hb.size hg2) (by omega)
      replace hb2 := bnext hb hb2
      have hns' := hts
      obtain ⟨P, hP⟩ : ∃ P, P = [tag, kind] ++ be 2 nl := ⟨_, rfl⟩
      have hPl : P.length = 4 := by rw [hP]; simp [be_length]
      rw [← hP] at ho2 hB
      replace hP := hid hP
      replace hPl := hid hPl
      have hle : ∀ j, ((texts.take j).flatMap encT).length ≤ nl * 65537 := fun j => by rw [hnl.out]; exact flatT_take_le texts h6 j
      replace hle := hid hle
      clear hf hr hr2 hns hts
      go_wp2
      go_loopw [3, 66] (fun s i wr => ∃ j : Nat, j ≤ nl ∧ i = .int .i64 j ∧ Own wr w.heap.size s (P ++ (texts.take j).flatMap encT) ∧ Below w.heap.size w wr) (fun _ i _ => nl - (intOf i).toNat)
      case atStart => exact ⟨0, Nat.zero_le _, rfl, by simpa using ho2, hb2⟩
      case round =>
        obtain ⟨j, hj, rfl, ho, hbr⟩ := hrel
        obtain ⟨av, cv, rfl, _, _⟩ := ho.form
        by_cases hlt : j < nl
        · obtain ⟨b, o, rfl, hc⟩ := TAt.form (CAt.below hns' hbr) (by intro e; subst e; have := hnl.out; simp at this; omega)
          have hcj := hc j (by have := hnl.out; omega)
          have hsn := flatT_snoc texts j (by have := hnl.out; omega)
          have hsz := h6 (texts[j]'(by have := hnl.out; omega)) (List.getElem_mem _)
          have hLl : (P ++ (texts.take j).flatMap encT).length ≤ 4 + nl * 65537 := by
            rw [List.length_append, hPl.out]; have := hle.out j; omega
          clear hc
          generalize texts[j]'(by have := hnl.out; omega) = x at *
          replace hsn : P ++ (texts.take (j + 1)).flatMap encT = (P ++ (texts.take j).flatMap encT) ++ encT x := by rw [hsn, List.append_assoc]
          generalize P ++ (texts.take j).flatMap encT = L at *
          replace hsn := hid hsn
          replace hLl := hid hLl
          go_wp2_with fail
          refine (addtext_of none 0 0 [] x _ rfl (by omega) hsz (at_nil _ _)).mono ?_
          rintro e w3 ⟨g3, rfl, hg3, hr3, hb3⟩
          rw [List.nil_append] at hr3
          have hr3' : Row w3 g3 (encT x) := hr3
          have hen := hid (encT_len x)
          rw [Nat.zero_add]
          have ho3 := ho.below hb3
          replace hb3 := bnext hbr hb3
          have hz3 := hb3.size
          go_wp2_with (at_builtin; refine wpList_app _ rfl (.tmp 75) (.tmp 76) rfl rfl w.heap.size _ L (encT x) rfl ho3 (some ⟨g3, 0, none⟩) (2 + x.size) (2 + x.size) rfl hen.out hr3'.at (by have := hLl.out; omega) hz3 ?_; intro v4 w4 ho4 hb4)
          obtain ⟨a4, c4, rfl, _, _⟩ := ho4.form
          go_wp2
          go_roundw
          case rel => exact ⟨j + 1, by omega, by go_num, by rw [hsn.out]; exact ho4, hb3.trans hb4⟩
          case measure => simp [intOf]; omega
        · obtain rfl : j = nl := by omega
          have hfin : texts.take j = texts := by rw [hnl.out, List.take_length]
          rw [hfin] at ho ⊢
          go_wp2
          go_ret
          refine ⟨_, rfl, ?_, hbr⟩
          rw [hB.out]
          exact ho

theorem written_any (i : It) (w : World) (hit : ItAt w i) (hg : Good i.fd) :
    Calls Try.prog 28 #[i.val] w fun e w' => ∃ v, e = .returned v ∧ Own w' w.heap.size v (bytesF i.fd) ∧ Below w.heap.size w w' :=
  written_raw i.fd.tag i.fd.kind i.fd.n i.fd.text i.fd.ns i.fd.texts i.na i.ta i.nc i.tc w hit.ns hit.ts hg

end Go.Proofs.Ytkkdiciadkcmmaa
