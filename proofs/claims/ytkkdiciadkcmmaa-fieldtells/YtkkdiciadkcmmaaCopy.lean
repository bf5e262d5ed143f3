/- What CopyFields answers: the same fields, in memory of their own. -/
import Derived.Test.YtkkdiciadkcmmaaGet
import Derived.Test.YtkkdiciadkcmmaaAll2
import Derived.Deep.RegionWith
namespace Go.Proofs.Ytkkdiciadkcmmaa
open Go.RowKit

theorem copynums_any (a : Option Addr) (n c : Nat) (ns : List Int) (w : World) (hn : ns.length = n) (hat : NAt w a ns) (hb : n * 8 ≤ 140737488355328) :
    Calls Try.prog 36 #[.slice a n c] w fun e w' => ∃ a' c', e = .returned (.slice a' n c') ∧ Nums w' w.heap.size (.slice a' n c') ns ∧ Below w.heap.size w w' := by
  go_enter Try.func36, Try.ntmps36
  go_wp2_with (at_builtin; refine wpList_copynums _ rfl (.tmp 4) (.tmp 5) rfl rfl ns a n c rfl hn hat hb ?_; intro a1 c1 w1 ho1 hb1)
  go_ret
  exact ⟨a1, c1, rfl, ho1, hb1⟩

theorem copytxts_any (a : Option Addr) (n c : Nat) (ts : List ByteArray) (w : World) (hn : ts.length = n) (hat : TAt w a ts) (hb : n * 16 ≤ 140737488355328) :
    Calls Try.prog 37 #[.slice a n c] w fun e w' => ∃ a' c', e = .returned (.slice a' n c') ∧ Txts w' w.heap.size (.slice a' n c') ts ∧ Below w.heap.size w w' := by
  go_enter Try.func37, Try.ntmps37
  go_wp2_with (at_builtin; refine wpList_copytxts _ rfl (.tmp 4) (.tmp 5) rfl rfl ts a n c rfl hn hat hb ?_; intro a1 c1 w1 ho1 hb1)
  go_ret
  exact ⟨a1, c1, rfl, ho1, hb1⟩

/-- The fields copied so far. -/
structure Cop (w wr : World) (j : Nat) (v : Value) (its cs : List It) : Prop where
  fds : fds cs = (fds its).take j
  own : Flds wr w.heap.size v cs
  its : ∀ i ∈ cs, ItOwn wr w.heap.size i
  bel : Below w.heap.size w wr

abbrev itObj (it : It) : Obj := .cells #[.int .u8 (it.fd.tag.toNat : Int), .int .u8 (it.fd.kind.toNat : Int), .int .i64 it.fd.n, .string it.fd.text, .slice it.na it.fd.ns.length it.nc, .slice it.ta it.fd.texts.length it.tc] 30

/-- Both lists of the copy's block are set. -/
theorem cop_mid {w wr w1 w2 : World} {it : It} {a1 a2 : Option Addr} {d1 d2 : Nat} (hbr : Below w.heap.size w wr) (hb1 : Below (wr.alloc (itObj it)).heap.size (wr.alloc (itObj it)) w1) (hb2 : Below w1.heap.size w1 w2)
    (ho1 : Nums w1 w.heap.size (.slice a1 it.fd.ns.length d1) it.fd.ns) (ho2 : Txts w2 w.heap.size (.slice a2 it.fd.texts.length d2) it.fd.texts) :
    RB w2 wr.heap.size (.int .u8 (it.fd.tag.toNat : Int)) (.int .u8 (it.fd.kind.toNat : Int)) (.int .i64 it.fd.n) (.string it.fd.text) (.slice it.na it.fd.ns.length it.nc) (.slice it.ta it.fd.texts.length it.tc) ∧
    (let w3 := (w2.setCell ⟨wr.heap.size, 4, none⟩ (.slice a1 it.fd.ns.length d1)).setCell ⟨wr.heap.size, 5, none⟩ (.slice a2 it.fd.texts.length d2)
     RB w3 wr.heap.size (.int .u8 (it.fd.tag.toNat : Int)) (.int .u8 (it.fd.kind.toNat : Int)) (.int .i64 it.fd.n) (.string it.fd.text) (.slice a1 it.fd.ns.length d1) (.slice a2 it.fd.texts.length d2) ∧ ItOwn w3 w.heap.size ⟨it.fd, a1, d1, a2, d2⟩ ∧ Kp (fun k => k = wr.heap.size) w2 w3 ∧ Below w.heap.size w w3) := by
  have r0 : RB (wr.alloc (itObj it)) wr.heap.size _ _ _ _ _ _ := heap_alloc_new wr _
  have r2 := (r0.below hb1).below hb2
  have hbl := bnext (bnext (bnext hbr (below_lit wr (itObj it))) hb1) hb2
  refine ⟨r2, (r2.set4 _).set5 _, ?_⟩
  have hk : Kp (fun k => k = wr.heap.size) w2 ((w2.setCell ⟨wr.heap.size, 4, none⟩ (.slice a1 it.fd.ns.length d1)).setCell ⟨wr.heap.size, 5, none⟩ (.slice a2 it.fd.texts.length d2)) :=
    Kp.setCell (S := fun k => k = wr.heap.size) (p := ⟨wr.heap.size, 5, none⟩) (Kp.setCell (S := fun k => k = wr.heap.size) (p := ⟨wr.heap.size, 4, none⟩) (Kp.refl _ _) rfl _) rfl _
  have ho1' : Nums w2 w.heap.size _ _ := owns_below ho1 hb2
  refine ⟨⟨owns_kp ho1' hk (fun k hk' e => owns_block_ne ho1' r2 (by decide) (by rw [hk', e])), owns_kp ho2 hk (fun k hk' e => owns_block_ne ho2 r2 (by decide) (by rw [hk', e]))⟩, hk, ?_⟩
  exact hbl.trans (hk.below (fun k e => by have := hbr.size; omega) hbl.size)

theorem cop_row {w wr w1 w2 w3 : World} {it : It} {j : Nat} {v : Value} {its cs : List It} (h : Cop w wr j v its cs) (hb1 : Below (wr.alloc (itObj it)).heap.size (wr.alloc (itObj it)) w1) (hb2 : Below w1.heap.size w1 w2) (hk : Kp (fun k => k = wr.heap.size) w2 w3) :
    Flds w3 w.heap.size v cs ∧ ∀ i ∈ cs, ItOwn w3 w.heap.size i := by
  have hb := bnext (bnext (below_lit wr (itObj it)) hb1) hb2
  refine ⟨owns_kp (owns_below h.own hb) hk (fun k hk' e => ?_), fun i hi => ((h.its i hi).below hb).kp hk (fun k hk' e => ?_) (fun k hk' e => ?_)⟩
  · have := (World.ownsRow.lt h.own k hk').2; omega
  · have := (World.ownsRow.lt (h.its i hi).1 k hk').2; omega
  · have := (World.ownsRow.lt (h.its i hi).2 k hk').2; omega

theorem cop_one {wr w1 : World} {it : It} (hb1 : Below (wr.alloc (itObj it)).heap.size (wr.alloc (itObj it)) w1) : RB w1 wr.heap.size (.int .u8 (it.fd.tag.toNat : Int)) (.int .u8 (it.fd.kind.toNat : Int)) (.int .i64 it.fd.n) (.string it.fd.text) (.slice it.na it.fd.ns.length it.nc) (.slice it.ta it.fd.texts.length it.tc) :=
  RB.below (heap_alloc_new wr _) hb1

set_option maxRecDepth 100000 in
set_option maxHeartbeats 4000000 in
theorem copyfields_any (a : Option Addr) (len cap : Nat) (its : List It) (w : World) (hl : its.length = len) (hat : FAt w a its) (hlen : len * 80 ≤ 140737488355328) (hroom : ∀ i ∈ its, Room i) :
    Calls Try.prog 14 #[.slice a len cap] w fun e w' => ∃ a' c' cs, e = .returned (.slice a' len c') ∧ fds cs = fds its ∧ cs.length = len ∧ FAt w' a' cs ∧ Below w.heap.size w w' := by
  go_enter Try.func14, Try.ntmps14
  go_wp2
  go_loopw [3, 4] (fun v i wr => ∃ (j : Nat) (cs : List It), j ≤ len ∧ i = .int .i64 j ∧ Cop w wr j v its cs) (fun _ i _ => len - (intOf i).toNat)
  case atStart => exact ⟨0, [], Nat.zero_le _, rfl, ⟨by simp [fds], Flds.nil _ _, (fun i hi => absurd hi (by simp)), Below.refl _ _⟩⟩
  case round =>
    obtain ⟨j, cs, hj, rfl, hC⟩ := hrel
    obtain ⟨av, cv, rfl, _⟩ := owns_form hC.own
    have hcl : cs.length = j := by have := congrArg List.length hC.fds; simp [fds] at this; omega
    by_cases hlt : j < len
    · have hatw := hat.below hC.bel
      obtain ⟨b, o, rfl, hc⟩ := hatw.form (by intro e; subst e; simp at hl; omega)
      obtain ⟨c0, c1, c2, c3, c4, c5⟩ := hc j (by omega)
      have hit := hatw.2 (its[j]'(by omega)) (List.getElem_mem _)
      have hrm := hroom (its[j]'(by omega)) (List.getElem_mem _)
      have hsn : (fds its).take (j + 1) = (fds its).take j ++ [(its[j]'(by omega)).fd] := by
        rw [List.take_succ_eq_append_getElem (by simp [fds]; omega)]; simp [fds]
      generalize its[j]'(by omega) = it at *
      clear hc hatw
      have hbl := below_lit wr (itObj it)
      have hcn := copynums_any it.na it.fd.ns.length it.nc it.fd.ns (wr.alloc (itObj it)).drew rfl (CAt.below (hit.below hbl).ns (Below.refl _ _).drew) hrm.1
      have hts := (hit.below hbl).ts
      have hzr := hC.bel.size
      have hsn := hid hsn
      have hCh := hid hC
      clear hC hit
      replace hl := hid hl
      unfold itObj at *
      go_wp2_with fail
      go_region_with (first
        | (go_at_call 36; refine hcn.mono ?_; rintro e w1 ⟨a1, d1, rfl, ho1, hb1⟩; have hrb1 := cop_one (undrew hb1); obtain ⟨y0, y1, y2, y3, y4, y5⟩ := hrb1.six; have hct := copytxts_any it.ta it.fd.texts.length it.tc it.fd.texts w1 rfl (CAt.below hts (undrew hb1)) hrm.2)
        | (go_at_call 37; refine hct.mono ?_; rintro e w2 ⟨a2, d2, rfl, ho2, hb2⟩; obtain ⟨hrb2, hrb3, hio3, hk3, hb3⟩ := cop_mid hCh.out.bel (undrew hb1) hb2 (owns_low ho1 (by simp; omega)) (owns_low ho2 (by have := (bnext (bnext hCh.out.bel hbl) (undrew hb1)).size; exact this)); obtain ⟨x0, x1, x2, x3, x4, x5⟩ := hrb2.six; have x4f := hrb2.free 4; have x5f := hrb2.free 5))
      all_goals
        obtain ⟨hoF, hioF⟩ := cop_row hCh.out (undrew hb1) hb2 hk3
        obtain ⟨z0, z1, z2, z3, z4, z5⟩ := hrb3.six
        have hz3 := hb3.size
        generalize (w2.setCell ⟨wr.heap.size, 4, none⟩ (.slice a1 it.fd.ns.length d1)).setCell ⟨wr.heap.size, 5, none⟩ (.slice a2 it.fd.texts.length d2) = w3 at *
        have hbl3 := below_lit w3 (itObj ⟨it.fd, a1, d1, a2, d2⟩)
        have hoF2 : Flds _ w.heap.size _ _ := owns_below hoF hbl3
        have hat3 : CAt _ (some ⟨w3.heap.size, 0, none⟩) (It.cells ⟨it.fd, a1, d1, a2, d2⟩) := cat_lit w3 30 (It.cells ⟨it.fd, a1, d1, a2, d2⟩) _ rfl
        have hb3' := bnext hb3 hbl3
        have hz4 := hb3'.size
        have hio4 : ∀ i ∈ cs ++ [⟨it.fd, a1, d1, a2, d2⟩], ItOwn (w3.alloc (itObj ⟨it.fd, a1, d1, a2, d2⟩)) w.heap.size i := fun i hi => by
          rcases List.mem_append.1 hi with h1 | h1
          · exact (hioF i h1).below hbl3
          · rw [List.mem_singleton.1 h1]; exact hio3.below hbl3
        have hclh := hid hcl
        rw [hcl] at hoF2
        clear hcl
        go_wp2_with (at_builtin; refine wpList_fld _ rfl (.tmp 24) (.tmp 26) rfl w.heap.size _ cs ⟨it.fd, a1, d1, a2, d2⟩ rfl hoF2 (some ⟨w3.heap.size, 0, none⟩) 1 rfl hat3 (by have := hclh.out; omega) hz4 ?_; intro v5 w5 ho5 hg5 _)
        have hb5 : Below w.heap.size w w5 := hb3'.trans ((Kp.grown hg5).below (fun k e => (World.ownsRow.lt hoF2 k e).1) hz4)
        have hio5 : ∀ i ∈ cs ++ [⟨it.fd, a1, d1, a2, d2⟩], ItOwn w5 w.heap.size i := fun i hi => (hio4 i hi).grown hoF2 hg5
        go_wp2
        go_roundw
        case rel => exact ⟨j + 1, cs ++ [⟨it.fd, a1, d1, a2, d2⟩], by omega, by go_num, ⟨by rw [hsn.out, ← hCh.out.fds]; simp [fds], ho5, hio5, hb5⟩⟩
        case measure => simp [intOf]; omega
    · obtain rfl : j = len := by omega
      have hfd : fds cs = fds its := by rw [hC.fds, List.take_of_length_le (by simp [fds]; omega)]
      have hfat : FAt wr av cs := flds_at hC.own hC.its (fun i hi => by
        have : i.fd ∈ fds its := by rw [← hfd]; exact List.mem_map.2 ⟨i, hi, rfl⟩
        obtain ⟨i', hi', e⟩ := List.mem_map.1 this
        rw [← e]; exact (hat.2 i' hi').fit)
      have hbr := hC.bel
      clear hC
      replace hfd := hid hfd
      rw [hcl]
      go_wp2
      go_ret
      exact ⟨av, cv, cs, rfl, hfd.out, hcl, hfat, hbr⟩
end Go.Proofs.Ytkkdiciadkcmmaa
