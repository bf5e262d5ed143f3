/- The document's Ask. -/
import Derived.Test.YthjggjjocfbjcaaRefA
import Derived.Test.YthjggjjocfbjcaaUpd
namespace Go.Proofs.Ythjggjjocfbjcaa
open Go.RowKit

/-- The answer of the document's Ask lies in memory as the plain one says. -/
def RAskPost (R : PA × Int × Int) (w : World) (e : Ending) (w' : World) : Prop :=
  ∃ a' c' ks', e = .returned (.tuple #[askV R.1 a' R.1.2.2.2.length c', .int .i64 R.2.1, .int .i64 R.2.2]) ∧ ks'.map KV.flat = R.1.2.2.2 ∧ KAt w' 0 a' ks' ∧ Below w.heap.size w w'

theorem copyb_any (a : Option Addr) (cap len : Nat) (l : List UInt8) (w : World) (hl : l.length = len) (hlen : len ≤ 140737488355328) (hat : At w a l) :
    Calls Try.prog 55 #[.slice a len cap] w fun e w' => ∃ a' c', e = .returned (.slice a' len c') ∧ Own w' w.heap.size (.slice a' len c') l ∧ Below w.heap.size w w' := by
  refine (copy_any a cap len l w hl hlen hat).mono ?_
  rintro e w' ⟨v, rfl, ho, hb⟩
  obtain ⟨a2, c2, rfl, _, _⟩ := ho.form
  rw [hl] at ho ⊢
  exact ⟨a2, c2, rfl, ho, hb⟩

/-- Requests of which each, and its row, lie off what may turn. -/
theorem katKp {S : Nat → Prop} {w w' : World} {a : Option Addr} {ks : List KV} {q : KV} (h : KAt w 0 a (ks ++ [q])) (hk : Kp S w w') (hks : ∀ k ∈ ks, k.body ≠ [] → ∀ x, k.a = some x → ¬ S x.block) (ha : ∀ x, a = some x → ¬ S x.block) (hq : ∀ x, q.a = some x → ¬ S x.block) : KAt w' 0 a (ks ++ [q]) := by
  refine ⟨h.row.kp hk ha, fun _ _ => Nat.zero_le _, fun k hk' => ?_, fun _ _ _ _ => Nat.zero_le _, h.short⟩
  rcases List.mem_append.1 hk' with h1 | h1
  · by_cases hne : k.body = []
    · rw [hne]; exact at_nil _ _
    · exact (h.body k hk').kp hk (hks k h1 hne)
  · simp at h1; subst h1
    exact (h.body k hk').kp hk hq

theorem At.blk {w : World} {a : Option Addr} {l : List UInt8} (h : At w a l) (hne : l ≠ []) : ∀ x, a = some x → x.block < w.heap.size := by
  obtain ⟨b, o, rfl, hc⟩ := h hne
  intro x hx
  cases hx
  exact World.block_lt_of_cell? w _ (hc 0 (List.length_pos_iff.2 hne))

set_option maxRecDepth 100000 in
set_option maxHeartbeats 8000000 in
theorem askref_any (id next acked : Int) (a : Option Addr) (n c lo : Nat) (ks : List KV) (ba : Option Addr) (bl bc : Nat) (body : List UInt8) (w : World) (hl : ks.length = n) (h : KAt w lo a ks) (hnn : n * 32 ≤ SMALL) (hbl : body.length = bl) (hbs : bl ≤ 140737488355328) (hat : At w ba body) :
    Calls Try.prog 26 #[.agg #[.int .i64 id, .int .i64 next, .int .i64 acked, .slice a n c], .slice ba bl bc] w (RAskPost (askP (id, next, acked, ks.map KV.flat) body) w) := by
  unfold SMALL at hnn
  have b1 := below_lit w (.cells #[.int .i64 id, .int .i64 next, .int .i64 acked, .slice a n c] 41)
  have p1 := ABlk.new w (.int .i64 id) (.int .i64 next) (.int .i64 acked) (.slice a n c)
  have b2 := below_lit (w.alloc (.cells #[.int .i64 id, .int .i64 next, .int .i64 acked, .slice a n c] 41)) (.cells #[.int .i64 0, .int .i64 0, .int .i64 0, .slice none 0 0] 41)
  have p2 := ABlk.new (w.alloc (.cells #[.int .i64 id, .int .i64 next, .int .i64 acked, .slice a n c] 41)) (.int .i64 0) (.int .i64 0) (.int .i64 0) (.slice none 0 0)
  have es : (w.alloc (.cells #[.int .i64 id, .int .i64 next, .int .i64 acked, .slice a n c] 41)).heap.size = w.heap.size + 1 := by simp
  rw [es] at p2
  replace hl := hid hl
  replace p1 := hid (p1.below b2)
  replace p2 := hid p2
  replace b1 := bnext b1 b2
  clear b2
  have hK1 := h.below b1
  cases hra : rightA (id, next, acked, ks.map KV.flat) with
  | false =>
    have e : askP (id, next, acked, ks.map KV.flat) body = ((0, 0, 0, []), 0, 2) := by unfold askP; rw [hra]; rfl
    rw [e]
    replace e := hid e
    replace hra := hid hra
    replace hbl := hid hbl
    go_enter Try.func26, Try.ntmps26
    go_wp2_with fail
    refine (rref_any id next acked a n c lo ks _ hl.out hK1 (by omega)).mono ?_
    rintro e w2 ⟨rfl, hb2⟩
    rw [hra.out]
    have B2 := bnext b1 hb2
    have q1 := p1.out.below hb2
    have q2 := p2.out.below hb2
    have c0 := q1.cell0
    have c1 := q1.cell1
    have c2 := q1.cell2
    have c3 := q1.cell3
    have d0 := q2.cell0
    have d1 := q2.cell1
    have d2 := q2.cell2
    have d3 := q2.cell3
    have f0 := q2.free 0
    have f1 := q2.free 1
    have f2 := q2.free 2
    have f3 := q2.free 3
    have r2 := hid (q2.set (.int .i64 0) (.int .i64 0) (.int .i64 0) (.slice none 0 0))
    have hBf := hid (below_set4 B2 (w.heap.size + 1) (by omega) (.int .i64 0) (.int .i64 0) (.int .i64 0) (.slice none 0 0))
    replace q1 := hid q1
    replace q2 := hid q2
    replace hK1 := hid hK1
    go_wp2
    (try simp only [Exit.inBlock, Exit.then])
    refine bodyPost_ret (results_a3 rfl _ _ (w.heap.size + 1) _ _ _ _ rfl r2.out) rfl ?_
    exact ⟨none, 0, [], rfl, rfl, KAt.nil _ _, hBf.out⟩
  | true =>
    obtain ⟨_, hne1, hrise, hea, h8⟩ := righta_inv hra
    have hab := ack_bounds hne1 hrise
    rw [← hea] at hab
    unfold MM at hne1
    have hn8 : n ≤ 8 := by have := waits_len hra; rw [List.length_map] at this; rw [← hl.out]; exact this
    replace hea := hid hea
    replace hrise := hid hrise
    have hw1 : IntKind.i64.wrap (next - 1) = next - 1 := by rw [IntKind.wrap_i64]; omega
    have hw2 : IntKind.i64.wrap (next - 1 - acked) = next - 1 - acked := by rw [IntKind.wrap_i64]; omega
    replace h8 := hid h8
    by_cases hlong : 65536 < body.length
    · have e : askP (id, next, acked, ks.map KV.flat) body = ((0, 0, 0, []), 0, 3) := by unfold askP; rw [hra, if_neg (by simp), if_pos hlong]
      rw [e]
      have dl : decide ((65536 : Int) < (bl : Int)) = true := by rw [hbl] at hlong; simp; omega
      replace e := hid e
      replace hra := hid hra
      replace hbl := hid hbl
      replace hlong := hid hlong
      go_enter Try.func26, Try.ntmps26
      go_wp2_with fail
      refine (rref_any id next acked a n c lo ks _ hl.out hK1 (by omega)).mono ?_
      rintro e w2 ⟨rfl, hb2⟩
      rw [hra.out]
      have B2 := bnext b1 hb2
      have q1 := p1.out.below hb2
      have q2 := p2.out.below hb2
      have c0 := q1.cell0
      have c1 := q1.cell1
      have c2 := q1.cell2
      have c3 := q1.cell3
      have d0 := q2.cell0
      have d1 := q2.cell1
      have d2 := q2.cell2
      have d3 := q2.cell3
      have f0 := q2.free 0
      have f1 := q2.free 1
      have f2 := q2.free 2
      have f3 := q2.free 3
      have r2 := hid (q2.set (.int .i64 0) (.int .i64 0) (.int .i64 0) (.slice none 0 0))
      have hBf := hid (below_set4 B2 (w.heap.size + 1) (by omega) (.int .i64 0) (.int .i64 0) (.int .i64 0) (.slice none 0 0))
      replace q1 := hid q1
      replace q2 := hid q2
      replace hK1 := hid hK1
      go_wp2
      (try simp only [Exit.inBlock, Exit.then])
      refine bodyPost_ret (results_a3 rfl _ _ (w.heap.size + 1) _ _ _ _ rfl r2.out) rfl ?_
      exact ⟨none, 0, [], rfl, rfl, KAt.nil _ _, hBf.out⟩
    · have dl : decide ((65536 : Int) < (bl : Int)) = false := by rw [hbl] at hlong; simp; omega
      by_cases he8 : next - 1 - acked = 8
      · have e : askP (id, next, acked, ks.map KV.flat) body = ((0, 0, 0, []), 0, 7) := by unfold askP; rw [hra, if_neg (by simp), if_neg hlong, if_pos he8]
        rw [e]
        have d8 : (next - 1 - acked == 8) = true := by simp [he8]
        replace e := hid e
        replace hra := hid hra
        replace hbl := hid hbl
        replace hlong := hid hlong
        replace he8 := hid he8
        go_enter Try.func26, Try.ntmps26
        go_wp2_with fail
        refine (rref_any id next acked a n c lo ks _ hl.out hK1 (by omega)).mono ?_
        rintro e w2 ⟨rfl, hb2⟩
        rw [hra.out]
        have B2 := bnext b1 hb2
        have q1 := p1.out.below hb2
        have q2 := p2.out.below hb2
        have c0 := q1.cell0
        have c1 := q1.cell1
        have c2 := q1.cell2
        have c3 := q1.cell3
        have d0 := q2.cell0
        have d1 := q2.cell1
        have d2 := q2.cell2
        have d3 := q2.cell3
        have f0 := q2.free 0
        have f1 := q2.free 1
        have f2 := q2.free 2
        have f3 := q2.free 3
        have r2 := hid (q2.set (.int .i64 0) (.int .i64 0) (.int .i64 0) (.slice none 0 0))
        have hBf := hid (below_set4 B2 (w.heap.size + 1) (by omega) (.int .i64 0) (.int .i64 0) (.int .i64 0) (.slice none 0 0))
        replace q1 := hid q1
        replace q2 := hid q2
        replace hK1 := hid hK1
        go_wp2
        (try simp only [Exit.inBlock, Exit.then])
        refine bodyPost_ret (results_a3 rfl _ _ (w.heap.size + 1) _ _ _ _ rfl r2.out) rfl ?_
        exact ⟨none, 0, [], rfl, rfl, KAt.nil _ _, hBf.out⟩
      · have d8 : (next - 1 - acked == 8) = false := by simp [he8]
        by_cases hem : next = 4611686018427387904
        · have e : askP (id, next, acked, ks.map KV.flat) body = ((0, 0, 0, []), 0, 5) := by unfold askP; rw [hra, if_neg (by simp), if_neg hlong, if_neg he8, if_pos hem]
          rw [e]
          have dm : (next == 4611686018427387904) = true := by simp [hem]
          replace e := hid e
          replace hra := hid hra
          replace hbl := hid hbl
          replace hlong := hid hlong
          replace he8 := hid he8
          replace hem := hid hem
          go_enter Try.func26, Try.ntmps26
          go_wp2_with fail
          refine (rref_any id next acked a n c lo ks _ hl.out hK1 (by omega)).mono ?_
          rintro e w2 ⟨rfl, hb2⟩
          rw [hra.out]
          have B2 := bnext b1 hb2
          have q1 := p1.out.below hb2
          have q2 := p2.out.below hb2
          have c0 := q1.cell0
          have c1 := q1.cell1
          have c2 := q1.cell2
          have c3 := q1.cell3
          have d0 := q2.cell0
          have d1 := q2.cell1
          have d2 := q2.cell2
          have d3 := q2.cell3
          have f0 := q2.free 0
          have f1 := q2.free 1
          have f2 := q2.free 2
          have f3 := q2.free 3
          have r2 := hid (q2.set (.int .i64 0) (.int .i64 0) (.int .i64 0) (.slice none 0 0))
          have hBf := hid (below_set4 B2 (w.heap.size + 1) (by omega) (.int .i64 0) (.int .i64 0) (.int .i64 0) (.slice none 0 0))
          replace q1 := hid q1
          replace q2 := hid q2
          replace hK1 := hid hK1
          go_wp2
          (try simp only [Exit.inBlock, Exit.then])
          refine bodyPost_ret (results_a3 rfl _ _ (w.heap.size + 1) _ _ _ _ rfl r2.out) rfl ?_
          exact ⟨none, 0, [], rfl, rfl, KAt.nil _ _, hBf.out⟩
        · have e : askP (id, next, acked, ks.map KV.flat) body = ((id, next + 1, acked, ks.map KV.flat ++ [(next, body)]), next, 0) := by unfold askP; rw [hra, if_neg (by simp), if_neg hlong, if_neg he8, if_neg hem]
          rw [e]
          have dm : (next == 4611686018427387904) = false := by simp [hem]
          have hw3 : IntKind.i64.wrap (next + 1) = next + 1 := by rw [IntKind.wrap_i64]; omega
          obtain ⟨i0, hi0, hz0, hz1, hz2⟩ := info_parts info69z
          replace e := hid e
          replace hra := hid hra
          replace hbl := hid hbl
          replace hlong := hid hlong
          replace he8 := hid he8
          replace hem := hid hem
          go_enter Try.func26, Try.ntmps26
          go_wp2_with fail
          refine (rref_any id next acked a n c lo ks _ hl.out hK1 (by omega)).mono ?_
          rintro e w2 ⟨rfl, hb2⟩
          rw [hra.out]
          have B2 := bnext b1 hb2
          have q1 := p1.out.below hb2
          have q2 := p2.out.below hb2
          have c0 := q1.cell0
          have c1 := q1.cell1
          have c2 := q1.cell2
          have c3 := q1.cell3
          have d0 := q2.cell0
          have d1 := q2.cell1
          have d2 := q2.cell2
          have d3 := q2.cell3
          have f0 := q2.free 0
          have f1 := q2.free 1
          have f2 := q2.free 2
          have f3 := q2.free 3
          have hK2 := hK1.below hb2
          have hoff : Hid (∀ k ∈ ks, k.body ≠ [] → ∀ x, k.a = some x → ¬ (x.block = w.heap.size ∨ x.block = w.heap.size + 1)) := hid fun k hk hne x hx e => by have := At.blk (h.body k hk) hne x hx; omega
          replace hK1 := hid hK1
          clear d0 d1 d2 d3 f0 f1 f2 f3
          have hcat := hid hK2.row
          have hone := hid (kcells_one ks)
          have hlen := hid (show (ks.flatMap KV.cells).length = n * 2 by rw [kcells_len, hl.out])
          go_wp2_with (at_builtin; refine Hid.out ?_)
          refine hid ?_
          refine wpList_cat _ rfl (.tmp 28) (.tmp 30) 39 rfl w2.heap.size 69 i0 _ 2 32 Try.underlying39 hi0 hz0 hz1 hz2 rfl (by omega) (.slice none 0 0) 0 [] rfl (World.ownsRow_nil _ _ _ _) a n c (ks.flatMap KV.cells) rfl hlen.out hcat.out hone.out (by unfold maxLen; omega) (by omega) (Nat.le_refl _) ?_
          intro v3 w3 hr3 hg3 hv3
          rw [Nat.zero_add, List.nil_append] at hr3
          have hB3 : Below w2.heap.size w2 w3 := (Kp.grown hg3).below (fun k hk => by cases hk) (Nat.le_refl _)
          have B3 := bnext B2 hB3
          have q1 := q1.below hB3
          have q2 := q2.below hB3
          have c1 := q1.cell1
          have hsz2 : w.heap.size + 2 ≤ w2.heap.size := by have := hb2.size; simp at this; omega
          have bd := drew_below w3
          have hcp := copyb_any ba bc bl body w3.drew hbl.out hbs ((hat.below B3).below bd)
          have c1d : w3.drew.cell? ⟨w.heap.size, 1, none⟩ = some (.int .i64 next) := c1
          have hown3 : ∀ k, v3.ownBlock = some k → w2.heap.size ≤ k := fun k hk => (World.ownsRow.lt hr3 k hk).1
          replace hr3 := hid hr3
          replace hown3 := hid hown3
          replace q1 := hid q1
          replace q2 := hid q2
          replace hK2 := hid hK2
          go_wp2_with fail
          go_region_law (first
            | (refine step_call rfl 55 _ _ rfl Try.f55 Try.func55 (by kernel_rfl) (by kernel_rfl) #[.slice ba bl bc] (by simp [Act.eval, Act.put]) hcp ?_; rintro e w5 ⟨a5, c5, rfl, ho5, hb5⟩; refine ⟨_, rfl, ?_⟩; have B5 := bnext bd hb5; have q15 := q1.out.below B5; have k1 := q15.cell1; have hr5 := owns_below hr3.out B5; have bl6 := below_lit w5 (.cells #[.int .i64 next, .slice a5 bl c5] 69); have hr6 := owns_below hr5 bl6; have hcl := cat_lit w5 69 [.int .i64 next, .slice a5 bl c5] _ rfl; have hbase : w2.heap.size ≤ (w5.alloc (.cells #[.int .i64 next, .slice a5 bl c5] 69)).heap.size := Nat.le_trans hB3.size (bnext B5 bl6).size; replace hr5 := hid hr5; replace q15 := hid q15)
            | (refine step_cat rfl (.tmp 32) (.tmp 38) 39 rfl w2.heap.size 69 i0 _ 2 32 Try.underlying39 hi0 hz0 hz1 hz2 rfl (by omega) v3 n (ks.flatMap KV.cells) rfl hr6 (some ⟨w5.heap.size, 0, none⟩) 1 1 [.int .i64 next, .slice a5 bl c5] rfl rfl hcl (by simp [Value.oneCell']) (by unfold maxLen; omega) (by omega) hbase ?_; intro v7 w7 hr7 hg7 hv7; obtain ⟨a7, c7, rfl, hc7⟩ := owns_form hr7; have q17 := (q15.out.below bl6).kp (Kp.grown hg7) (fun e => by have := hown3.out _ e; omega); have l3 := q17.cell3; have f3 := q17.free 3; replace q17 := hid q17))
          all_goals
            have hk57 : Kp (fun k => w2.heap.size ≤ k) w2 w7 := Kp.next (Kp.of_below (S := fun k => w2.heap.size ≤ k) (bnext hB3 (bnext B5 bl6))) (Kp.grown hg7) (fun k _ e => hown3.out k e)
            have hB7 : Below w2.heap.size w2 w7 := hk57.below (fun k h => h) (Nat.le_refl _)
            have q17' := q17.out
            have q27 := q2.out.below (bnext B5 bl6)
            replace q27 := q27.kp (Kp.grown hg7) (fun e => by have := hown3.out _ e; omega)
            have r1 := (q17'.set3 (.slice a7 (n + 1) c7)).set1 (.int .i64 (next + 1))
            have r3 := (q27.other w.heap.size 3 (.slice a7 (n + 1) c7) (by omega)).other w.heap.size 1 (.int .i64 (next + 1)) (by omega)
            have s1 := q17'.set3 (.slice a7 (n + 1) c7)
            have t1 := s1.cell1
            have t1f := s1.free 1
            replace s1 := hid s1
            have u0 := q17'.cell0
            have u1 := q17'.cell1
            have u1f := q17'.free 1
            have hat7 : At w7 a5 body := by
              refine ((ho5.at_.below bl6).kp (Kp.grown hg7) (fun x hx e => ?_))
              have h1 := ho5.base_le x hx
              have h2 := (World.ownsRow.lt hr3.out _ e).2
              have := bd.size
              omega
            have hKA : KAt w7 0 a7 (ks ++ [⟨next, a5, c5, body⟩]) := by
              refine ⟨?_, fun _ _ => Nat.zero_le _, fun k hk => ?_, fun _ _ _ _ => Nat.zero_le _, fun k hk => ?_⟩
              · have := owns_cat hr7
                rw [List.flatMap_append]
                show CAt w7 a7 (ks.flatMap KV.cells ++ ([⟨next, a5, c5, body⟩] : List KV).flatMap KV.cells)
                have e1 : ([⟨next, a5, c5, body⟩] : List KV).flatMap KV.cells = [.int .i64 next, .slice a5 bl c5] := by simp [KV.cells, hbl.out]
                rw [e1]
                exact this
              · rcases List.mem_append.1 hk with h1 | h1
                · by_cases hne0 : k.body = []
                  · rw [hne0]; exact at_nil _ _
                  · refine (((hK2.out.body k h1).below hB3).below (bnext B5 bl6)).kp (Kp.grown hg7) (fun x hx e => ?_)
                    have h2 := (At.blk (hK2.out.body k h1) hne0 x hx)
                    have h3 := hown3.out _ e
                    omega
                · simp at h1; subst h1; exact hat7
              · rcases List.mem_append.1 hk with h1 | h1
                · exact hK2.out.short k h1
                · simp at h1; subst h1; show body.length ≤ SMALL; rw [hbl.out]; unfold SMALL; exact hbs
            replace q17' := hid q17'
            replace q27 := hid q27
            replace hk57 := hid hk57
            replace hKA := hid hKA
            replace r1 := hid r1
            replace r3 := hid r3
            replace hat7 := hid hat7
            replace hr7 := hid hr7
            go_wp2_with fail
            obtain ⟨w8, hw8⟩ : ∃ w8, w8 = (w7.setCell ⟨w.heap.size, 3, none⟩ (.slice a7 (n + 1) c7)).setCell ⟨w.heap.size, 1, none⟩ (.int .i64 (next + 1)) := ⟨_, rfl⟩
            rw [← hw8] at r1 r3 ⊢
            have hk8 : Kp (fun k => k = w.heap.size ∨ k = w.heap.size + 1) w7 w8 := by rw [hw8]; exact ((Kp.refl (fun k => k = w.heap.size ∨ k = w.heap.size + 1) w7).setCell (p := ⟨w.heap.size, 3, none⟩) (.inl rfl) _).setCell (p := ⟨w.heap.size, 1, none⟩) (.inl rfl) _
            clear hw8 u0 u1 u1f t1 t1f l3 f3 k1 c1 c1d
            have bd8 := drew_below w8
            have r19 := r1.out.below bd8
            have r39 := r3.out.below bd8
            have x0 := r19.cell0
            have x1 := r19.cell1
            have x2 := r19.cell2
            have x3 := r19.cell3
            have y0 := r39.cell0
            have y1 := r39.cell1
            have y2 := r39.cell2
            have y3 := r39.cell3
            have z0 := r39.free 0
            have z1 := r39.free 1
            have z2 := r39.free 2
            have z3 := r39.free 3
            have i0' := r1.out.cell0
            have i1' := r1.out.cell1
            have i2' := r1.out.cell2
            have i3' := r1.out.cell3
            have j0' := r3.out.cell0
            have j1' := r3.out.cell1
            have j2' := r3.out.cell2
            have j3' := r3.out.cell3
            have m0' := r3.out.free 0
            have m1' := r3.out.free 1
            have m2' := r3.out.free 2
            have m3' := r3.out.free 3
            have hne : w.heap.size ≠ w.heap.size + 1 := by omega
            have rf := hid (r39.set (.int .i64 id) (.int .i64 (next + 1)) (.int .i64 acked) (.slice a7 (n + 1) c7))
            have hkf : Kp (fun k => k = w.heap.size ∨ k = w.heap.size + 1) w7 _ := ((((hk8.then bd8).setCell (p := ⟨w.heap.size + 1, 0, none⟩) (.inr rfl) (.int .i64 id)).setCell (p := ⟨w.heap.size + 1, 1, none⟩) (.inr rfl) (.int .i64 (next + 1))).setCell (p := ⟨w.heap.size + 1, 2, none⟩) (.inr rfl) (.int .i64 acked)).setCell (p := ⟨w.heap.size + 1, 3, none⟩) (.inr rfl) (.slice a7 (n + 1) c7)
            have hKf := hid (katKp hKA.out hkf hoff.out (fun x hx => by have h1 := (World.ownsRow.lt hr7.out x.block (by rw [hx]; rfl)).1; omega) (fun x hx => by have h1 := ho5.base_le x hx; have h2 := bd.size; have h3 := hB3.size; omega))
            have hBf := hid ((bnext B2 hB7).trans (hkf.below (base := w.heap.size) (fun k hk => by omega) (bnext B2 hB7).size))
            replace hkf := hid hkf
            replace r19 := hid r19
            replace r39 := hid r39
            replace hk8 := hid hk8
            go_region
            all_goals
              go_wp2
              (try simp only [Exit.inBlock, Exit.then])
              refine bodyPost_ret (results_a3 rfl _ _ (w.heap.size + 1) _ _ _ _ rfl rf.out) rfl ?_
              refine ⟨a7, c7, _, ?_, ?_, hKf.out, hBf.out⟩
              · have hln : (ks.map KV.flat ++ [(next, body)]).length = n + 1 := by simp [hl.out]
                unfold askV
                simp only [hln]
                rfl
              · rw [List.map_append]; rfl

end Go.Proofs.Ythjggjjocfbjcaa
