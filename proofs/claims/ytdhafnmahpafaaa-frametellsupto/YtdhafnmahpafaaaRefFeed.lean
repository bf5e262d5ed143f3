/- What the document's Feed answers: the frames that are whole, and the reader then. -/
import Derived.Test.YtdhafnmahpafaaaRef
import Derived.Test.YtdhafnmahpafaaaTurn
namespace Go.Proofs.Ytdhafnmahpafaaa
open Go.RowKit

/-- The block of the document's reader. -/
def RBlk (w : World) (g : Nat) (v : Value) (b : Bool) : Prop := w.heap[g]? = some (.cells #[v, .bool b] 39 (0, 0))

theorem RBlk.c0 {w : World} {g : Nat} {v : Value} {b : Bool} (h : RBlk w g v b) : w.cell? ⟨g, 0, none⟩ = some v := by unfold RBlk at h; simp [World.cell?, h]
theorem RBlk.c1 {w : World} {g : Nat} {v : Value} {b : Bool} (h : RBlk w g v b) : w.cell? ⟨g, 1, none⟩ = some (.bool b) := by unfold RBlk at h; simp [World.cell?, h]
theorem RBlk.free {w : World} {g : Nat} {v : Value} {b : Bool} (h : RBlk w g v b) (i : Nat) : w.frozen? ⟨g, i, none⟩ = false := by unfold RBlk at h; simp [World.frozen?, h]
theorem RBlk.lt {w : World} {g : Nat} {v : Value} {b : Bool} (h : RBlk w g v b) : g < w.heap.size := (Array.getElem?_eq_some_iff.1 h).1
theorem RBlk.below {w w' : World} {g : Nat} {v : Value} {b : Bool} (h : RBlk w g v b) (hb : Below w.heap.size w w') : RBlk w' g v b := by
  unfold RBlk; rw [hb.block g h.lt]; exact h
theorem RBlk.kp {S : Nat → Prop} {w w' : World} {g : Nat} {v : Value} {b : Bool} (h : RBlk w g v b) (hk : Kp S w w') (hn : ¬ S g) : RBlk w' g v b := by
  unfold RBlk; rw [hk.block g h.lt hn]; exact h
theorem RBlk.new (w : World) (v : Value) (b : Bool) : RBlk (w.alloc (.cells #[v, .bool b] 39)) w.heap.size v b := heap_alloc_new w _
theorem RBlk.set {w : World} {g : Nat} {v : Value} {b : Bool} (h : RBlk w g v b) (v' : Value) (b' : Bool) : RBlk ((w.setCell ⟨g, 0, none⟩ v').setCell ⟨g, 1, none⟩ (.bool b')) g v' b' := by
  unfold RBlk at *
  have h1 : (w.setCell ⟨g, 0, none⟩ v').heap[g]? = some (.cells #[v', .bool b] 39 (0, 0)) := by
    rw [setCell_eq_setRow w g 0 _ 39 (0, 0) _ h, setRow_heap w g _ _ 39 _ h]; simp
  rw [setCell_eq_setRow _ g 1 _ 39 (0, 0) _ h1, setRow_heap _ g _ _ 39 _ h1]
  simp

theorem info39 : (Try.prog.info? 39).map (·.size) = some 2 := by kernel_rfl

/-- Three results, the first one a reader in a block. -/
theorem results_reader3 {fn : Func} {p u v : Tmp} (h : fn.results = #[.cell p 39, .tmp u, .tmp v]) (tmps : Array Value) (w : World) (g : Nat) (x : Value) (b : Bool)
    (hp : tmps.getD p undef = .pointer (some ⟨g, 0, none⟩)) (hg : RBlk w g x b) :
    (results fn tmps).run Try.prog w = .ok (.tuple #[.agg #[x, .bool b], tmps.getD u undef, tmps.getD v undef]) w := by
  have hp' : tmps[p]?.getD undef = .pointer (some ⟨g, 0, none⟩) := by simpa using hp
  simp [results, h, hp', asAddr, run_loadVar_row (P := Try.prog) w g 39 39 _ (0, 0) _ hg Try.underlying39 rfl info39]

theorem reffeed_broken (al a : Option Addr) (cl len cap : Nat) (w : World) :
    Calls Try.prog 20 #[.agg #[.slice al 0 cl, .bool true], .slice a len cap] w fun e w' => e = .returned (.tuple #[.agg #[.slice al 0 cl, .bool true], .slice none 0 0, .int .i64 30]) ∧ Below w.heap.size w w' := by
  go_enter Try.func20, Try.ntmps20
  go_wp2
  (try simp only [Exit.inBlock, Exit.then])
  have hR := RBlk.new (w.alloc (.cells #[.slice al 0 cl, .bool true] 39)) (.slice al 0 cl) true
  simp only [World.size_alloc] at hR
  refine bodyPost_ret (results_reader3 rfl _ _ (w.heap.size + 1) (.slice al 0 cl) true rfl hR) rfl ?_
  exact ⟨rfl, bnext (below_lit w _) (below_lit _ _)⟩

theorem RBlk.ne_at {w : World} {g : Nat} {a : Option Addr} {n c : Nat} {b : Bool} {x : Option Addr} {m : List UInt8} (h : RBlk w g (.slice a n c) b) (hat : At w x m) (hm : m ≠ []) : ∀ y, x = some y → y.block ≠ g := by
  obtain ⟨b', o, rfl, hc⟩ := hat hm
  intro y hy e
  cases hy
  simp only at e
  subst e
  have hp : 0 < m.length := List.length_pos_iff.2 hm
  have h1 := hc 0 hp
  unfold RBlk at h
  rw [cell_of_row w b' (o + 0) _ 39 (0, 0) h] at h1
  match o with
  | 0 => simp at h1
  | 1 => simp at h1
  | o + 2 => simp at h1

theorem RBlk.ne_owns {w : World} {g base e z n : Nat} {v u : Value} {b : Bool} {xs : List Value} (h : RBlk w g v b) (ho : w.ownsRow base e z u n xs) (he : e ≠ 39) : ∀ k, u.ownBlock = some k → k ≠ g := by
  intro k hk e'
  subst e'
  rcases ho.2 with ⟨rfl, _⟩ | ⟨g', cap, cur, rfl, _, hg, _⟩
  · cases hk
  · simp [Value.ownBlock] at hk
    subst hk
    unfold RBlk at h
    rw [h] at hg
    simp at hg
    exact he hg.2.symm

theorem owns_fat' {w : World} {base n c : Nat} {a : Option Addr} {its : List It} (h : w.ownsRow base 27 2 (.slice a n c) its.length (its.flatMap It.cells)) (hi : ∀ i ∈ its, At w i.a i.body) : FAt w a its := by
  refine ⟨fun hne => ?_, hi⟩
  rcases h.2 with ⟨he, hn⟩ | ⟨g, cap, cur, hv, _, hg, _, _, _, ht⟩
  · exact absurd (List.eq_nil_of_length_eq_zero hn) hne
  · simp only [Value.slice.injEq] at hv
    obtain ⟨rfl, _, _⟩ := hv
    refine ⟨g, 0, rfl, fun j hj => ?_⟩
    obtain ⟨h1, h2⟩ := cells_get its j hj
    rw [← ht, List.getElem?_take, if_pos (by omega)] at h1 h2
    constructor
    · rw [Nat.zero_add]; simp [World.cell?, hg]; simpa using h1
    · rw [Nat.zero_add]; simp [World.cell?, hg]; simpa using h2

theorem It.at_own {w : World} {base : Nat} {i : It} (h : Own w base i.val i.body) : At w i.a i.body := by
  obtain ⟨a, c, he, _, hat⟩ := h.form
  simp only [It.val, Value.slice.injEq] at he
  rw [he.1]
  exact hat

/-- Behind the last store. -/
theorem reffeed_end {w w2 wr : World} {g4 : Nat} {all m : List UInt8} {v2 rest : Value} {its : List It} {ar af xa : Option Addr} {n cr cf xn xc : Nat} {xb : Bool} (hr : Round w2 wr all v2 rest (.slice af its.length cf) its m ar n cr) (hR : RBlk wr g4 (.slice xa xn xc) xb)
    (hw : Below w.heap.size w w2) (hg : w.heap.size ≤ g4) (v' : Value) (b' : Bool) :
    Frs ((wr.setCell ⟨g4, 0, none⟩ v').setCell ⟨g4, 1, none⟩ (.bool b')) (fun k => w.heap.size ≤ k) (.slice af its.length cf) its ∧ At ((wr.setCell ⟨g4, 0, none⟩ v').setCell ⟨g4, 1, none⟩ (.bool b')) ar m ∧ Below w.heap.size w ((wr.setCell ⟨g4, 0, none⟩ v').setCell ⟨g4, 1, none⟩ (.bool b')) := by
  have hk : Kp (fun k => k = g4) wr ((wr.setCell ⟨g4, 0, none⟩ v').setCell ⟨g4, 1, none⟩ (.bool b')) := Kp.setCell (S := fun k => k = g4) (p := ⟨g4, 1, none⟩) (Kp.setCell (S := fun k => k = g4) (p := ⟨g4, 0, none⟩) (Kp.refl _ _) rfl _) rfl _
  have hsz := hw.size
  refine ⟨⟨owns_le (owns_kp hr.own hk (hR.ne_owns hr.own (by decide))), fun k hk' => Nat.le_trans hsz (hr.own.lt k hk').1, fun i hi => ⟨((hr.all_ i hi).kp hk (hR.ne_owns (hr.all_ i hi) (by decide))).le (Nat.zero_le _), fun k hk' => Nat.le_trans hsz ((hr.all_ i hi).lt k hk').1⟩⟩, ?_, ?_⟩
  · by_cases hm : m = []
    · subst hm; exact at_nil _ _
    · have := hr.mem.below hr.below
      exact this.kp hk (hR.ne_at this hm)
  · exact ((bnext hw hr.below).setCell (p := ⟨g4, 0, none⟩) hg _).setCell (p := ⟨g4, 1, none⟩) hg _

theorem copy_sl (a : Option Addr) (cap len : Nat) (l : List UInt8) (w : World) (hl : l.length = len) (hlen : len ≤ 140737488355328) (hat : At w a l) :
    Calls Try.prog 12 #[.slice a len cap] w fun e w' => ∃ b c, e = .returned (.slice b len c) ∧ Own w' w.heap.size (.slice b len c) l ∧ Below w.heap.size w w' := by
  refine (copy_any a cap len l w hl hlen hat).mono ?_
  rintro e w' ⟨v, rfl, ho, hb⟩
  obtain ⟨b, c, rfl, _, _⟩ := ho.form
  rw [hl] at ho ⊢
  exact ⟨b, c, rfl, ho, hb⟩

/-- 'append(v, f)' as one step of a region that draws its order. -/
theorem step_push {ops : Array Oper} {o : Oper} {a : Act} {w : World} {K : Act → World → Prop} {Q : Exit → Act → World → Prop} {E : Prop} (hgd : o.guard = none) (s x : Operand)
    (ho : o.op = .call { callee := .builtin .append, args := #[s, x], argTypes := #[30, 30] })
    (base : Nat) (v : Value) (its : List It) (hs : a.eval s = v) (hown : w.ownsRow base 27 2 v its.length (its.flatMap It.cells)) (g c : Nat) (i : It) (hx : a.eval x = .slice (some ⟨g, 0, none⟩) 1 c)
    (hg : FBlk w g (i.k.toNat : Int) (.slice i.a i.body.length i.c)) (hb : its.length + 1 ≤ 4398046511104) (hbase : base ≤ w.heap.size)
    (h : ∀ v' w', w'.ownsRow base 27 2 v' (its ++ [i]).length ((its ++ [i]).flatMap It.cells) → w.grownBy w' v.ownBlock → K (a.put o.dst v') w') :
    if Region.wanted o (yielded ops a.tmps) = true then Oper.wp Try.prog o a w K Q else E := by
  have hw : Region.wanted o (yielded ops a.tmps) = true := by simp [Region.wanted, hgd]
  rw [if_pos hw]
  obtain ⟨i0, hi, hz0, hz1, hz2⟩ := info_parts info27'
  refine wp_append_own w s x 30 ho base 27 i0 _ 2 32 Try.underlying30 hi hz0 hz1 hz2 rfl (by omega) v its.length _ hs hown ⟨g, 0, none⟩ 1 c i.cells hx rfl hg.src ?_ (by unfold maxLen; omega) (by omega) hbase ?_
  · intro u hu
    exact its_one [i] u (by simpa using hu)
  · intro v' w' h1 h2 _
    refine h v' w' ?_ h2
    rw [List.length_append, List.flatMap_append]
    simpa using h1

theorem round_next2 {w1 wr w2 wx w3 : World} {all : List UInt8} {v1 v3 : Value} {its : List It} {m body : List UInt8} {b o cr size cb cf : Nat} {ab af : Option Addr} {k : UInt8}
    (hr : Round w1 wr all v1 (.slice (some ⟨b, o, none⟩) m.length cr) (.slice af its.length cf) its m (some ⟨b, o, none⟩) m.length cr) (hh : headOf m = some (some (k, body, size))) (hb2 : Below wr.heap.size wr w2) (ho : Own w2 wr.heap.size (.slice ab body.length cb) body)
    (hx : Below w2.heap.size w2 wx)
    (ho3 : w3.ownsRow w1.heap.size 27 2 v3 (its ++ [(⟨k, body, ab, cb⟩ : It)]).length ((its ++ [(⟨k, body, ab, cb⟩ : It)]).flatMap It.cells)) (hg3 : wx.grownBy w3 (Value.slice af its.length cf).ownBlock)
    (ar' : Option Addr) (n' cr' : Nat) (hn : n' = m.length - size) (hc : n' ≤ cr') (har : m.drop size ≠ [] → ar' = some ⟨b, o + size, none⟩) :
    Round w1 w3 all v1 (.slice ar' n' cr') v3 (its ++ [⟨k, body, ab, cb⟩]) (m.drop size) ar' n' cr' := by
  subst hn
  have hs := head_size hh
  have hz := hr.below.size
  have hob := (owns_kp hr.own (Kp.of_below (S := fun _ => False) hb2) (fun _ _ h => h))
  have hob' := (owns_kp hob (Kp.of_below (S := fun _ => False) hx) (fun _ _ h => h))
  refine ⟨rfl, by rw [List.length_drop], hc, ?_, ?_, ho3, ?_, ?_, ?_, fun h => absurd h (by simp)⟩
  · intro hne
    obtain ⟨b', o', he, hcell⟩ := hr.mem (by intro e; subst e; simp at hne)
    cases he
    refine ⟨b, o + size, har hne, fun i hi => ?_⟩
    rw [List.length_drop] at hi
    rw [Nat.add_assoc, hcell (size + i) (by omega), List.getElem_drop]
  · rw [hr.take, take_whole hh]
    simp [It.fr]
  · intro i hi
    have h1 : Own w2 w1.heap.size i.val i.body := by
      rcases List.mem_append.1 hi with hi | hi
      · exact (hr.all_ i hi).below hb2
      · simp at hi
        subst hi
        exact ho.le hz
    have h2 := h1.below hx
    exact h2.kp (Kp.grown hg3) (own_ne h2 hob')
  · rw [List.length_drop]; have := hr.le; omega
  · have h3 := hb2.size
    have h4 := hx.size
    refine Below.grown ((hr.below.trans (hb2.mono hz)).trans (hx.mono (by omega))) hg3 (by omega) ?_
    intro k' hk'
    exact (hr.own.lt k' hk').1

end Go.Proofs.Ytdhafnmahpafaaa
