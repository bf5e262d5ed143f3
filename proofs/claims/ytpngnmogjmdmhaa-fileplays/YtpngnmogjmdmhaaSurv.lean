/- What survivors does. -/
import Derived.Test.YtpngnmogjmdmhaaOps2
import Derived.Deep.RegionLawGrows
namespace Go.Proofs.Ytpngnmogjmdmhaa
open Go.RowKit

theorem clip_any (a : Option Addr) (n cap : Nat) (w : World) (h : n ≤ cap) : Calls Try.prog 55 #[.slice a n cap] w fun e w' => e = .returned (.slice a n n) ∧ w' = w := by
  go_enter Try.func55, Try.ntmps55
  go_wp2
  go_ret
  exact ⟨rfl, rfl⟩

/-- What a crash keeps, in memory. -/
def cut (i : CIt) (t : Nat) : CIt := ⟨{ i.c with data := i.c.data.take t }, i.a, i.cap⟩

def keeps (its : List CIt) (keep torn : Nat) : List CIt :=
  match its.drop keep with
  | [] => its
  | i :: _ => its.take keep ++ (if i.c.app then [cut i torn] else [])

theorem keeps_chs (its : List CIt) (keep torn : Nat) : chs (keeps its keep torn) = kept (chs its) keep torn := by
  unfold keeps kept chs
  rw [← List.map_drop]
  cases its.drop keep with
  | nil => rfl
  | cons i r =>
    simp only [List.map_cons, List.map_append, List.map_take]
    congr 1
    split <;> simp [cut]

theorem At.take {w : World} {a : Option Addr} {l : List UInt8} (h : At w a l) (n : Nat) : At w a (l.take n) := by
  have := h
  rw [← List.take_append_drop n l] at this
  exact this.head

theorem cut_add {w : World} {i : CIt} (h : AddAt w i) (t : Nat) : AddAt w (cut i t) := ⟨⟨h.1.1.take t, by
  have := h.1.2
  simp [cut]
  omega⟩, h.2⟩

theorem keeps_mem {its : List CIt} {keep torn : Nat} {i : CIt} (h : i ∈ keeps its keep torn) : i ∈ its ∨ ∃ j ∈ its, i = cut j torn := by
  unfold keeps at h
  split at h
  · exact .inl h
  · rename_i c r e
    have hc : c ∈ its := List.mem_of_mem_drop (by rw [e]; exact List.mem_cons_self)
    rcases List.mem_append.1 h with h1 | h1
    · exact .inl (List.mem_of_mem_take h1)
    · split at h1
      · rw [List.mem_singleton] at h1
        exact .inr ⟨c, hc, h1⟩
      · simp at h1

theorem CAt.take {w : World} {a : Option Addr} {cs : List Value} (h : CAt w a cs) (n : Nat) : CAt w a (cs.take n) := by
  intro hne
  obtain ⟨b, o, rfl, hc⟩ := h (by intro e; subst e; simp at hne)
  refine ⟨b, o, rfl, fun i hi => ?_⟩
  rw [List.length_take] at hi
  rw [hc i (by omega), List.getElem_take]

theorem cells_take (its : List CIt) (n : Nat) : (its.flatMap CIt.cells).take (n * 4) = (its.take n).flatMap CIt.cells := by
  induction its generalizing n with
  | nil => simp
  | cons i r ih =>
    cases n with
    | zero => simp
    | succ n =>
      rw [List.take_succ_cons, List.flatMap_cons, List.flatMap_cons, show (n + 1) * 4 = i.cells.length + n * 4 by simp [CIt.cells]; omega, List.take_length_add_append, ih]

/-- What survivors answers. -/
def SurvPost (w w' : World) (ca : Option Addr) (its' : List CIt) (e : Ending) : Prop :=
  ∃ b m c, e = .returned (.slice b m c) ∧ m = its'.length ∧ CAt w' b (its'.flatMap CIt.cells) ∧ (b = ca ∨ ∃ g, b = some ⟨g, 0, none⟩ ∧ w.heap.size ≤ g ∧ g < w'.heap.size) ∧ Below w.heap.size w w'

theorem surv_end {w w1 w2 w3 : World} {ca a3 : Option Addr} {keep e3 : Nat} {itk tl : List CIt} {j : CIt} (hb1 : Below w.heap.size w w1) (hbl : Below w1.heap.size w1 w2) (hr3 : w3.ownsRow w2.heap.size 79 4 (.slice a3 (keep + 1) e3) (keep + 1) (itk.flatMap CIt.cells ++ j.cells)) (hgr3 : w2.grownBy w3 none)
    (hk : itk.length = keep) (ht : tl = [j]) : SurvPost w w3 ca (itk ++ tl) (.returned (.slice a3 (keep + 1) e3)) := by
  subst ht
  subst hk
  have hb3 : Below w2.heap.size w2 w3 := (Kp.grown hgr3).below (fun k e => by cases e) (Nat.le_refl _)
  have hz : w.heap.size ≤ w2.heap.size := Nat.le_trans hb1.size hbl.size
  refine ⟨_, _, _, rfl, by simp, ?_, .inr ?_, bnext (bnext hb1 hbl) hb3⟩
  · have := owns_cat hr3
    rw [List.flatMap_append]
    simpa using this
  · rcases hr3.2 with ⟨_, h0⟩ | ⟨g, cap, cur, h0, hg, hh, _⟩
    · omega
    · simp only [Value.slice.injEq] at h0
      exact ⟨g, h0.1, by omega, (Array.getElem?_eq_some_iff.1 hh).1⟩

set_option maxRecDepth 100000 in
set_option maxHeartbeats 4000000 in
theorem surv_any (ca : Option Addr) (n cap keep torn : Nat) (its : List CIt) (w : World) (hn : its.length = n) (hcap : n ≤ cap) (hnb : n ≤ 1000001) (hat : CAt w ca (its.flatMap CIt.cells)) (hadds : ∀ i ∈ its, AddAt w i) :
    Calls Try.prog 38 #[.slice ca n cap, .int .i64 (keep : Int), .int .i64 (torn : Int)] w fun e w' => SurvPost w w' ca (keeps its keep torn) e := by
  by_cases hk : n ≤ keep
  · have hd : decide ((keep : Int) ≥ (n : Int)) = true := decide_eq_true (by omega)
    have hkp : keeps its keep torn = its := by
      unfold keeps
      rw [List.drop_eq_nil_of_le (by omega)]
    rw [hkp]
    replace hn := hid hn
    go_enter Try.func38, Try.ntmps38
    go_wp2
    go_ret
    exact ⟨_, _, _, rfl, hn.out.symm, hat, .inl rfl, Below.refl _ _⟩
  · have hd : decide ((keep : Int) ≥ (n : Int)) = false := decide_eq_false (by omega)
    have hlt : keep < its.length := by omega
    have hkp : keeps its keep torn = its.take keep ++ (if its[keep].c.app then [cut its[keep] torn] else []) := by
      unfold keeps
      rw [List.drop_eq_getElem_cons hlt]
    rw [hkp]
    have hadd := hadds its[keep] (List.getElem_mem _)
    have hatk : CAt w ca ((its.take keep).flatMap CIt.cells) := by
      have := CAt.take hat (keep * 4)
      rwa [cells_take] at this
    have htl : (its.take keep).length = keep := by rw [List.length_take]; omega
    obtain ⟨b, o, rfl, hc⟩ := cat_form hat (by intro e; subst e; simp at hlt)
    obtain ⟨c0, c1, c2, c3⟩ := hc keep hlt
    clear hc
    generalize its[keep] = i at *
    generalize its.take keep = itk at *
    have hkc : keep ≤ cap := by omega
    have hkn : keep < n := by omega
    unfold CIt.val at c2
    obtain ⟨tl, htt⟩ : ∃ tl, tl = (if i.c.app = true then [cut i torn] else []) := ⟨_, rfl⟩
    rw [← htt]
    replace hn := hid hn
    replace hkp := hid hkp
    replace htl := hid htl
    replace htt := hid htt
    have hbz := below_lit w (.cells #[.int .i64 0, .bool false, .slice none 0 0, .int .i64 0] 79)
    have d0 := (hbz.cell (p := ⟨b, o + keep * 4, none⟩) (World.block_lt_of_cell? w _ c0)).trans c0
    have d1 := (hbz.cell (p := ⟨b, o + keep * 4 + 1, none⟩) (World.block_lt_of_cell? w _ c1)).trans c1
    have d2 := (hbz.cell (p := ⟨b, o + keep * 4 + 2, none⟩) (World.block_lt_of_cell? w _ c2)).trans c2
    have d3 := (hbz.cell (p := ⟨b, o + keep * 4 + 3, none⟩) (World.block_lt_of_cell? w _ c3)).trans c3
    go_enter Try.func38, Try.ntmps38
    go_wp2_with fail
    go_region
    clear d0 d1 d2 d3 c0 c1 c2 c3 hbz
    obtain ⟨w0, hw0⟩ : ∃ w0, w0 = (w.alloc (.cells #[.int .i64 (i.c.file : Int), .bool i.c.app, .slice i.a i.c.data.length i.cap, .int .i64 (i.c.left : Int)] 79)).drew := ⟨_, rfl⟩
    rw [← hw0]
    have hb0 : Below w.heap.size w w0 := by rw [hw0]; exact (below_lit w _).drew
    have hsz0 : w0.heap.size = w.heap.size + 1 := by rw [hw0]; simp [World.drew]
    obtain ⟨g, hge⟩ : ∃ g, g = w.heap.size := ⟨_, rfl⟩
    have hg : CBlk w0 g i := by rw [hge, hw0]; exact heap_alloc_new w _
    rw [← hge]
    replace hge := hid hge
    replace hsz0 := hid hsz0
    clear hw0
    have hadd0 : AddAt w0 i := hadd.kp (S := fun _ => False) (Kp.of_below hb0) (fun _ _ h => h)
    cases happ : i.c.app with
    | false =>
      have c1 := hg.c1
      rw [happ] at c1
      replace happ := hid happ
      go_wp2
      go_ret
      refine ⟨_, _, _, rfl, ?_, ?_, .inl rfl, hb0⟩
      · rw [htt.out, happ.out]; simp [htl.out]
      · rw [htt.out, happ.out]; simpa using hatk.below hb0
    | true =>
      have c1 := hg.c1
      rw [happ] at c1
      have c2 := hg.c2
      unfold CIt.val at c2
      have f2 := hg.free 2
      have hlc := hadd.1.2
      by_cases htle : (torn : Int) ≤ (i.c.data.length : Int)
      · have hdt : decide ((torn : Int) ≤ (i.c.data.length : Int)) = true := decide_eq_true htle
        obtain ⟨q, hq⟩ : ∃ q, q = torn := ⟨_, rfl⟩
        have hqt : q = (i.c.data.take torn).length := by rw [List.length_take]; omega
        have hqc : torn ≤ i.cap := by omega
        replace happ := hid happ
        replace hqt := hid hqt
        go_wp2_with fail
        rw [← hq]
        have hg1 : CBlk (w0.setCell ⟨g, 2, none⟩ (.slice i.a q i.cap)) g (cut i torn) := by
          unfold CBlk at hg ⊢
          rw [setCell_eq_setRow w0 g 2 _ 79 (0, 0) _ hg, setRow_heap w0 g _ _ 79 _ hg]
          simp [cut, CIt.val, hqt.out]
        have hk1 : Kp (fun k => k = g) w0 (w0.setCell ⟨g, 2, none⟩ (.slice i.a q i.cap)) := Kp.setCell (S := fun k => k = g) (p := ⟨g, 2, none⟩) (Kp.refl _ _) rfl _
        have hb1 : Below w.heap.size w (w0.setCell ⟨g, 2, none⟩ (.slice i.a q i.cap)) := hb0.trans (hk1.below (fun k e => by rw [e, hge.out]; exact Nat.le_refl _) hb0.size)
        generalize w0.setCell ⟨g, 2, none⟩ (.slice i.a q i.cap) = w1 at *
        clear c1 c2 f2 hq
        have y0 := hg1.c0
        have y1 := hg1.c1
        have y2 := hg1.c2
        have y3 := hg1.c3
        obtain ⟨j, hj⟩ : ∃ j, j = cut i torn := ⟨_, rfl⟩
        rw [← hj] at hg1 y0 y1 y2 y3
        have hbl := (drew_below w1).trans (below_lit w1.drew (.cells #[.int .i64 (j.c.file : Int), .bool j.c.app, j.val, .int .i64 (j.c.left : Int)] 79))
        have hat3 := cat_lit w1.drew 79 j.cells #[.int .i64 (j.c.file : Int), .bool j.c.app, j.val, .int .i64 (j.c.left : Int)] rfl
        have hatk1 := hatk.below (bnext hb1 hbl)
        obtain ⟨i0, hii, hz0, hz1, hz2⟩ := info_parts info79
        have hone := its_one [j]
        rw [show [j].flatMap CIt.cells = j.cells by simp] at hone
        have hkl : (itk.flatMap CIt.cells).length = keep * 4 := by rw [itsLen, htl.out]
        replace hj := hid hj
        replace hkl := hid hkl
        go_wp2_with fail
        go_region_law (first
          | (refine step_call rfl 55 _ _ rfl Try.f55 Try.func55 (by kernel_rfl) (by kernel_rfl) #[.slice (some ⟨b, o, none⟩) keep cap] (by simp [Act.eval, Act.put]) (clip_any _ keep cap _ hkc) ?_; rintro e w' ⟨rfl, rfl⟩; refine ⟨_, rfl, ?_⟩)
          | (refine step_append_grows rfl (.tmp 35) (.tmp 37) 52 rfl 79 i0 _ 4 48 Try.underlying52 hii hz0 hz1 hz2 rfl (by omega) (some ⟨b, o, none⟩) keep keep (itk.flatMap CIt.cells) rfl (fun e => by cases e) hkl.out (fun x e => by cases e; exact hatk1.src) ⟨w1.heap.size, 0, none⟩ 1 1 j.cells rfl rfl hat3.src hone (by omega) (by unfold maxLen; omega) (by omega) ?_; intro v3 w3 hr3 hgr3; obtain ⟨a3, e3, rfl, he3⟩ := owns_form hr3))
        all_goals
          go_wp2
          go_ret
          exact surv_end hb1 hbl hr3 hgr3 htl.out (by rw [htt.out, happ.out, hj.out]; rfl)
      · have hdt : decide ((torn : Int) ≤ (i.c.data.length : Int)) = false := decide_eq_false htle
        obtain ⟨q, hq⟩ : ∃ q, q = i.c.data.length := ⟨_, rfl⟩
        have hqt : q = (i.c.data.take torn).length := by rw [List.length_take]; omega
        have hqc : i.c.data.length ≤ i.cap := by omega
        replace happ := hid happ
        replace hqt := hid hqt
        go_wp2_with fail
        rw [← hq]
        have hg1 : CBlk (w0.setCell ⟨g, 2, none⟩ (.slice i.a q i.cap)) g (cut i torn) := by
          unfold CBlk at hg ⊢
          rw [setCell_eq_setRow w0 g 2 _ 79 (0, 0) _ hg, setRow_heap w0 g _ _ 79 _ hg]
          simp [cut, CIt.val, hqt.out]
        have hk1 : Kp (fun k => k = g) w0 (w0.setCell ⟨g, 2, none⟩ (.slice i.a q i.cap)) := Kp.setCell (S := fun k => k = g) (p := ⟨g, 2, none⟩) (Kp.refl _ _) rfl _
        have hb1 : Below w.heap.size w (w0.setCell ⟨g, 2, none⟩ (.slice i.a q i.cap)) := hb0.trans (hk1.below (fun k e => by rw [e, hge.out]; exact Nat.le_refl _) hb0.size)
        generalize w0.setCell ⟨g, 2, none⟩ (.slice i.a q i.cap) = w1 at *
        clear c1 c2 f2 hq
        have y0 := hg1.c0
        have y1 := hg1.c1
        have y2 := hg1.c2
        have y3 := hg1.c3
        obtain ⟨j, hj⟩ : ∃ j, j = cut i torn := ⟨_, rfl⟩
        rw [← hj] at hg1 y0 y1 y2 y3
        have hbl := (drew_below w1).trans (below_lit w1.drew (.cells #[.int .i64 (j.c.file : Int), .bool j.c.app, j.val, .int .i64 (j.c.left : Int)] 79))
        have hat3 := cat_lit w1.drew 79 j.cells #[.int .i64 (j.c.file : Int), .bool j.c.app, j.val, .int .i64 (j.c.left : Int)] rfl
        have hatk1 := hatk.below (bnext hb1 hbl)
        obtain ⟨i0, hii, hz0, hz1, hz2⟩ := info_parts info79
        have hone := its_one [j]
        rw [show [j].flatMap CIt.cells = j.cells by simp] at hone
        have hkl : (itk.flatMap CIt.cells).length = keep * 4 := by rw [itsLen, htl.out]
        replace hj := hid hj
        replace hkl := hid hkl
        go_wp2_with fail
        go_region_law (first
          | (refine step_call rfl 55 _ _ rfl Try.f55 Try.func55 (by kernel_rfl) (by kernel_rfl) #[.slice (some ⟨b, o, none⟩) keep cap] (by simp [Act.eval, Act.put]) (clip_any _ keep cap _ hkc) ?_; rintro e w' ⟨rfl, rfl⟩; refine ⟨_, rfl, ?_⟩)
          | (refine step_append_grows rfl (.tmp 35) (.tmp 37) 52 rfl 79 i0 _ 4 48 Try.underlying52 hii hz0 hz1 hz2 rfl (by omega) (some ⟨b, o, none⟩) keep keep (itk.flatMap CIt.cells) rfl (fun e => by cases e) hkl.out (fun x e => by cases e; exact hatk1.src) ⟨w1.heap.size, 0, none⟩ 1 1 j.cells rfl rfl hat3.src hone (by omega) (by unfold maxLen; omega) (by omega) ?_; intro v3 w3 hr3 hgr3; obtain ⟨a3, e3, rfl, he3⟩ := owns_form hr3))
        all_goals
          go_wp2
          go_ret
          exact surv_end hb1 hbl hr3 hgr3 htl.out (by rw [htt.out, happ.out, hj.out]; rfl)
end Go.Proofs.Ytpngnmogjmdmhaa
