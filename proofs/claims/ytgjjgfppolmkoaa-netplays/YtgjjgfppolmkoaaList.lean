/- What List does. -/
import Derived.Test.YtgjjgfppolmkoaaOps3
namespace Go.Proofs.Ytgjjgfppolmkoaa
open Go.RowKit Go.Maps

def Pk.cells (p : Pk) : List Value := [.int .i64 p.num, .int .i64 p.fr, .int .i64 p.to, .slice p.a p.body.length p.c]

/-- A packet without the place of its body. -/
def Pk.flat (p : Pk) : Int × Int × Int × List UInt8 := (p.num, p.fr, p.to, p.body)

/-- The packets Q lie in a row of the call's own, each with a body of its own; all of it apart. -/
structure PRow (w : World) (base : Nat) (v : Value) (Q : List Pk) : Prop where
  row : w.ownsRow base 31 4 v Q.length (Q.flatMap Pk.cells)
  own : ∀ q ∈ Q, Own w base (.slice q.a q.body.length q.c) q.body
  apart : Q.Pairwise fun p q => ∀ x y, p.a = some x → q.a = some y → x.block ≠ y.block
  off : ∀ q ∈ Q, ∀ x, q.a = some x → v.ownBlock ≠ some x.block

theorem PRow.below {w w' : World} {base : Nat} {v : Value} {Q : List Pk} (h : PRow w base v Q) (hb : Below w.heap.size w w') : PRow w' base v Q :=
  ⟨owns_below h.row hb, fun q hq => (h.own q hq).below hb, h.apart, h.off⟩

theorem PRow.low {w : World} {base base' : Nat} {v : Value} {Q : List Pk} (h : PRow w base v Q) (hb : base' ≤ base) : PRow w base' v Q :=
  ⟨owns_low h.row hb, fun q hq => (h.own q hq).le hb, h.apart, h.off⟩

theorem PRow.nil (w : World) (base : Nat) : PRow w base (.slice none 0 0) [] := ⟨World.ownsRow_nil _ _ _ _, by simp, List.Pairwise.nil, by simp⟩

theorem cells_len (Q : List Pk) : (Q.flatMap Pk.cells).length = Q.length * 4 := by
  induction Q with
  | nil => rfl
  | cons q r ih => simp [Pk.cells, ih]; omega

theorem cells_one (q : Pk) : ∀ u ∈ q.cells, u.oneCell' = true := by
  intro u hu
  simp [Pk.cells] at hu
  rcases hu with rfl | rfl | rfl | rfl <;> rfl

/-- One more: its body is new behind h, its row what append leaves. -/
theorem PRow.more {w w2 w3 : World} {base : Nat} {v v' : Value} {Q : List Pk} {q : Pk} (h : PRow w base v Q) (hb2 : Below w.heap.size w w2) (hq : Own w2 w.heap.size (.slice q.a q.body.length q.c) q.body) (hbase : base ≤ w.heap.size)
    (hr : w3.ownsRow base 31 4 v' (Q.length + 1) (Q.flatMap Pk.cells ++ q.cells)) (hg : w2.grownBy w3 v.ownBlock) (hv : v'.ownBlock = v.ownBlock ∨ v'.ownBlock = some w2.heap.size) : PRow w3 base v' (Q ++ [q]) := by
  have hqn : ∀ x, q.a = some x → w.heap.size ≤ x.block ∧ x.block < w2.heap.size := fun x hx => hq.lt x.block (by rw [hx]; rfl)
  have hvl : ∀ k, v.ownBlock = some k → k < w.heap.size := fun k hk => (World.ownsRow.lt h.row k hk).2
  have kg := Kp.grown hg
  have hQl : ∀ p ∈ Q, ∀ x, p.a = some x → x.block < w.heap.size := fun p hp x hx => ((h.own p hp).lt x.block (by rw [hx]; rfl)).2
  refine ⟨by simpa using hr, ?_, ?_, ?_⟩
  · intro p hp
    rcases List.mem_append.1 hp with hp | hp
    · refine ((h.own p hp).below hb2).kp kg (fun k hk e => ?_)
      cases ha : p.a with
      | none => rw [ha] at hk; cases hk
      | some x =>
        rw [ha] at hk
        have : k = x.block := (Option.some.inj hk).symm
        subst this
        exact h.off p hp x ha e
    · simp at hp; subst hp
      refine (hq.le hbase).kp kg (fun k hk e => ?_)
      have h1 := (hq.lt k hk).1
      have h2 := hvl k e
      omega
  · rw [List.pairwise_append]
    refine ⟨h.apart, by simp, fun p hp p' hp' x y hx hy => ?_⟩
    simp at hp'; subst hp'
    have h1 := hQl p hp x hx
    have h2 := (hqn y hy).1
    omega
  · intro p hp x hx
    have hlt : x.block < w2.heap.size ∧ (v.ownBlock ≠ some x.block) := by
      rcases List.mem_append.1 hp with hp | hp
      · have h1 := hQl p hp x hx
        have h2 := hb2.size
        exact ⟨by omega, h.off p hp x hx⟩
      · simp at hp; subst hp
        refine ⟨(hqn x hx).2, fun e => ?_⟩
        have h1 := hvl _ e
        have h2 := (hqn x hx).1
        omega
    rcases hv with e | e
    · rw [e]; exact hlt.2
    · rw [e]; intro e2; have := Option.some.inj e2; omega

theorem list_none (v : Value) (w : World) (h : NNone w v) : Calls Try.prog 14 #[v] w fun e w' => e = .returned (.slice none 0 0) ∧ w' = w := by
  go_enter Try.func14, Try.ntmps14
  go_wp2_with fail
  refine (isone_none _ _ h).mono ?_
  rintro e w1 ⟨rfl, rfl⟩
  go_wp2
  go_ret
  exact ⟨rfl, rfl⟩

theorem info31z : (Try.prog.info? 31).map (fun i => (i.zero, i.size, i.bytes)) = some (some (.agg #[.int .i64 0, .int .i64 0, .int .i64 0, .slice none 0 0]), 4, 48) := by kernel_rfl

/-- What stands between two rounds of List. -/
def LiI (w3 wr : World) (L : List Pk) (j : Nat) (v : Value) : Prop := ∃ Q, Q.map Pk.flat = (L.take j).map Pk.flat ∧ PRow wr w3.heap.size v Q ∧ Below w3.heap.size w3 wr

theorem flat_snoc {Q : List Pk} {L : List Pk} {j : Nat} (hj : j < L.length) (q : Pk) (h : Q.map Pk.flat = (L.take j).map Pk.flat) (hq : q.flat = L[j].flat) : (Q ++ [q]).map Pk.flat = (L.take (j + 1)).map Pk.flat := by
  rw [List.take_succ_eq_append_getElem hj, List.map_append, List.map_append, h]
  simp [hq]

set_option maxRecDepth 100000 in
set_option maxHeartbeats 400000 in
theorem list_any {p m last : Nat} {L : List Pk} (w : World) (h : NAt w p m L last) (hL : L.length ≤ 1000000) (hlast : last ≤ 4611686018427387904) :
    Calls Try.prog 14 #[.pointer (some ⟨p, 0, none⟩)] w fun e w' => ∃ v Q, e = .returned v ∧ Q.map Pk.flat = L.map Pk.flat ∧ PRow w' w.heap.size v Q ∧ Below w.heap.size w w' := by
  have c0 := h.c0
  go_enter Try.func14, Try.ntmps14
  go_wp2_with fail
  refine (isone_yes _ h).mono ?_
  rintro e w1 ⟨rfl, rfl⟩
  go_wp2_with fail
  refine (keys_any (some m) _).mono ?_
  rintro e w2 ⟨rfl, rfl⟩
  have bl := below_lit w1 (.cells #[.map (some m)] 54)
  have h2 := h.below bl
  go_wp2_with fail
  refine (sorted_any w1.heap.size m L.length (mapOf L) RV _ (by simp) (by simp) h2.own (by rw [mapOf_size]; unfold maxLen; omega) (by rw [mapOf_size]; omega)).mono ?_
  rintro e w3 ⟨kv, ss, rfl, hp, hrow, hb3⟩
  rw [mapOf_keys] at hp
  have hsl : ss.length = L.length := by rw [hp.length_eq]; simp
  rw [sorted_keys L h.rise ss hp, hsl] at hrow
  obtain ⟨ka, kc, rfl, hkc⟩ := owns_form hrow
  have hcat := owns_cat hrow
  have B3 := bnext bl hb3
  have h3 := h.below B3
  obtain ⟨i0, hi0, hz0, hz1, hz2⟩ := info_parts info31z
  obtain ⟨n, hn⟩ : ∃ n, n = L.length := ⟨_, rfl⟩
  rw [← hn] at hrow hkc hL ⊢
  replace hrow := hid hrow
  replace hsl := hid hsl
  replace hn := hid hn
  replace hp := hid hp
  go_wp2_with fail
  go_loopw [3, 16] (fun v i wr => ∃ j : Nat, j ≤ n ∧ i = .int .i64 j ∧ LiI w3 wr L j v) (fun _ i _ => n - (intOf i).toNat)
  case atStart => exact ⟨0, by omega, rfl, [], rfl, PRow.nil _ _, Below.refl _ _⟩
  case round =>
    obtain ⟨j, hj, rfl, Q, hQ, hP, hB⟩ := hrel
    by_cases hlt : j < n
    · have hjL : j < L.length := by rw [← hn.out]; exact hlt
      obtain ⟨kb, ko, hka, hkc2⟩ := hcat (by intro e; rw [List.map_map, List.map_eq_nil_iff] at e; rw [e] at hjL; simp at hjL)
      subst hka
      have hcell := hkc2 j (by simpa using hjL)
      have hkey : (w3.cell? ⟨kb, ko + j, none⟩) = some (.int .i64 L[j].num) := by rw [hcell]; simp [encZ]
      rw [← hB.cell (p := ⟨kb, ko + j, none⟩) (World.block_lt_of_cell? w3 _ hkey)] at hkey
      have hr := h3.below hB
      have c0 := hr.c0
      have hmem : L[j] ∈ L := List.getElem_mem hjL
      have hnum := h.nums _ hmem
      have hlook := look_one hr (k := L[j].num) (wf_i (by omega) (by omega)) (find_of_mem h.rise hmem)
      have hat := hr.bodies.at_ _ hmem
      have hsh := hr.bodies.short _ hmem
      have hQl : Q.length = j := by have := congrArg List.length hQ; simpa [Nat.min_eq_left (Nat.le_of_lt hjL)] using this
      obtain ⟨q, hq⟩ : ∃ q, q = L[j] := ⟨_, rfl⟩
      rw [← hq] at hkey hlook hat hsh
      replace hq := hid hq
      obtain ⟨num, fr, to, a, c, body⟩ := q
      unfold Pk.val at hlook
      simp only at hkey hlook hat hsh
      obtain ⟨len, hl⟩ : ∃ x, body.length = x := ⟨_, rfl⟩
      rw [hl] at hlook hsh
      replace hl := hid hl
      replace hQl := hid hQl
      replace hQ := hid hQ
      replace hP := hid hP
      replace hcat := hid hcat
      replace hkc2 := hid hkc2
      replace hr := hid hr
      replace hcell := hid hcell
      replace hnum := hid hnum
      go_wp2_with fail
      refine (handed_any num fr to a c len body _ hl.out (by omega) hat).mono ?_
      rintro e w5 ⟨a', c', rfl, ho5, hb5⟩
      have bl6 := below_lit w5 (.cells #[.int .i64 num, .int .i64 fr, .int .i64 to, .slice a' len c'] 31)
      have B6 := bnext hb5 bl6
      have hP6 := owns_below hP.out.row B6
      rw [hQl.out] at hP6
      have hbase : w3.heap.size ≤ (w5.alloc (.cells #[.int .i64 num, .int .i64 fr, .int .i64 to, .slice a' len c'] 31)).heap.size := Nat.le_trans hB.size B6.size
      have hcl := cat_lit w5 31 [.int .i64 num, .int .i64 fr, .int .i64 to, .slice a' len c'] _ rfl
      replace hP6 := hid hP6
      replace hbase := hid hbase
      replace hcl := hid hcl
      go_wp2_with (at_builtin; refine wpList_cat _ rfl (.tmp 20) (.tmp 28) 34 rfl w3.heap.size 31 i0 _ 4 48 Try.underlying34 hi0 hz0 hz1 hz2 rfl (by omega) u3 j (Q.flatMap Pk.cells) rfl hP6.out (some ⟨w5.heap.size, 0, none⟩) 1 1 [.int .i64 num, .int .i64 fr, .int .i64 to, .slice a' len c'] rfl rfl hcl.out (by simp [Value.oneCell']) (by unfold maxLen; omega) (by omega) hbase.out ?_; intro v7 w7 hr7 hg7 hv7)
      go_roundw
      case rel =>
        refine ⟨j + 1, by omega, by go_num, Q ++ [⟨num, fr, to, a', c', body⟩], flat_snoc hjL _ hQ.out (by rw [← hq.out]; rfl), ?_, ?_⟩
        · have hl2 := hl.out
          have hq2 := hQl.out
          subst hl2
          rw [← hq2] at hr7
          exact hP.out.more (q := ⟨num, fr, to, a', c', body⟩) B6 (ho5.below bl6) hB.size hr7 hg7 hv7
        · refine (hB.trans (B6.mono hB.size)).trans ?_
          refine (Kp.grown hg7).below (fun k hk => ?_) hbase.out
          exact (World.ownsRow.lt hP.out.row k hk).1
      case measure => simp [intOf]; omega
    · obtain rfl : j = n := by omega
      have hlt2 : decide ((j : Int) < (j : Int)) = false := by simp
      replace hQ := hid hQ
      replace hP := hid hP
      go_wp2
      go_ret
      refine ⟨u3, Q, rfl, ?_, hP.out.low B3.size, bnext B3 hB⟩
      have := hQ.out
      rw [hn.out, List.take_length] at this
      exact this
end Go.Proofs.Ytgjjgfppolmkoaa
