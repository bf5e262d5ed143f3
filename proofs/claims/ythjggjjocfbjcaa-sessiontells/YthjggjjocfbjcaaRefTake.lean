/- The document's Take. -/
import Derived.Test.YthjggjjocfbjcaaRefAsk
import Derived.Test.YthjggjjocfbjcaaTake
namespace Go.Proofs.Ythjggjjocfbjcaa
open Go.RowKit

def RTakePost (R : PA × Bool × Int) (w : World) (e : Ending) (w' : World) : Prop :=
  ∃ a' c' ks', e = .returned (.tuple #[askV R.1 a' R.1.2.2.2.length c', .bool R.2.1, .int .i64 R.2.2]) ∧ ks'.map KV.flat = R.1.2.2.2 ∧ KAt w' 0 a' ks' ∧ Below w.heap.size w w'

/-- Requests in a row of the call's own, their bytes where they were. -/
theorem katOf {w w' : World} {base n c : Nat} {a ad : Option Addr} {ks F : List KV} (h : KAt w 0 a ks) (hF : ∀ k ∈ F, k ∈ ks) (hr : w'.ownsRow base 69 2 (.slice ad n c) F.length (F.flatMap KV.cells)) (hb : Below w.heap.size w w') : KAt w' 0 ad F :=
  ⟨owns_cat hr, fun _ _ => Nat.zero_le _, fun k hk => (h.body k (hF k hk)).below hb, fun _ _ _ _ => Nat.zero_le _, fun k hk => h.short k (hF k hk)⟩

theorem katKp2 {S : Nat → Prop} {w w' : World} {a : Option Addr} {ks : List KV} (h : KAt w 0 a ks) (hk : Kp S w w') (hks : ∀ k ∈ ks, k.body ≠ [] → ∀ x, k.a = some x → ¬ S x.block) (ha : ∀ x, a = some x → ¬ S x.block) : KAt w' 0 a ks := by
  refine ⟨h.row.kp hk ha, fun _ _ => Nat.zero_le _, fun k hk' => ?_, fun _ _ _ _ => Nat.zero_le _, h.short⟩
  by_cases hne : k.body = []
  · rw [hne]; exact at_nil _ _
  · exact (h.body k hk').kp hk (hks k hk' hne)

def TkI (w2 wr : World) (ks : List KV) (r : Int) (j : Nat) (v b : Value) : Prop :=
  b = .bool (decide (((ks.take j).filter fun k => !(k.num == r)).length < j)) ∧ wr.ownsRow w2.heap.size 69 2 v ((ks.take j).filter fun k => !(k.num == r)).length (((ks.take j).filter fun k => !(k.num == r)).flatMap KV.cells) ∧ Below w2.heap.size w2 wr

set_option maxRecDepth 100000 in
set_option maxHeartbeats 4000000 in
theorem takeref_any (id next acked r : Int) (a : Option Addr) (n c lo : Nat) (ks : List KV) (w : World) (hl : ks.length = n) (h : KAt w lo a ks) (hnn : n * 32 ≤ SMALL) :
    Calls Try.prog 27 #[.agg #[.int .i64 id, .int .i64 next, .int .i64 acked, .slice a n c], .int .i64 r] w (RTakePost (takeP (id, next, acked, ks.map KV.flat) r) w) := by
  unfold SMALL at hnn
  have b1 := below_lit w (.cells #[.int .i64 id, .int .i64 next, .int .i64 acked, .slice a n c] 41)
  have p1 := ABlk.new w (.int .i64 id) (.int .i64 next) (.int .i64 acked) (.slice a n c)
  have b2 := below_lit (w.alloc (.cells #[.int .i64 id, .int .i64 next, .int .i64 acked, .slice a n c] 41)) (.cells #[.int .i64 0, .int .i64 0, .int .i64 0, .slice none 0 0] 41)
  have p2 := ABlk.new (w.alloc (.cells #[.int .i64 id, .int .i64 next, .int .i64 acked, .slice a n c] 41)) (.int .i64 0) (.int .i64 0) (.int .i64 0) (.slice none 0 0)
  have es : (w.alloc (.cells #[.int .i64 id, .int .i64 next, .int .i64 acked, .slice a n c] 41)).heap.size = w.heap.size + 1 := by simp
  rw [es] at p2
  replace hl := hid hl
  replace p1 := hid (p1.below b2)
  replace p2 := hid p2
  replace b1 := bnext b1 b2
  clear b2
  have hK1 := h.below b1
  cases hra : rightA (id, next, acked, ks.map KV.flat) with
  | false =>
    have e : takeP (id, next, acked, ks.map KV.flat) r = ((0, 0, 0, []), false, 2) := by unfold takeP; rw [hra]; rfl
    rw [e]
    replace e := hid e
    replace hra := hid hra
    go_enter Try.func27, Try.ntmps27
    go_wp2_with fail
    refine (rref_any id next acked a n c lo ks _ hl.out hK1 (by omega)).mono ?_
    rintro e w2 ⟨rfl, hb2⟩
    rw [hra.out]
    have B2 := bnext b1 hb2
    have q1 := p1.out.below hb2
    have q2 := p2.out.below hb2
    have c0 := q1.cell0
    have c1 := q1.cell1
    have c2 := q1.cell2
    have c3 := q1.cell3
    have d0 := q2.cell0
    have d1 := q2.cell1
    have d2 := q2.cell2
    have d3 := q2.cell3
    have f0 := q2.free 0
    have f1 := q2.free 1
    have f2 := q2.free 2
    have f3 := q2.free 3
    have r2 := hid (q2.set (.int .i64 0) (.int .i64 0) (.int .i64 0) (.slice none 0 0))
    have hBf := hid (below_set4 B2 (w.heap.size + 1) (by omega) (.int .i64 0) (.int .i64 0) (.int .i64 0) (.slice none 0 0))
    replace q1 := hid q1
    replace q2 := hid q2
    replace hK1 := hid hK1
    go_wp2
    (try simp only [Exit.inBlock, Exit.then])
    refine bodyPost_ret (results_a3 rfl _ _ (w.heap.size + 1) _ _ _ _ rfl r2.out) rfl ?_
    exact ⟨none, 0, [], rfl, rfl, KAt.nil _ _, hBf.out⟩
  | true =>
    have hn8 : n ≤ 8 := by have := waits_len hra; rw [List.length_map] at this; rw [← hl.out]; exact this
    obtain ⟨_, hne1, hrise, hea, h8⟩ := righta_inv hra
    rw [amap] at hrise
    have e : takeP (id, next, acked, ks.map KV.flat) r = ((id, next, ackP next (((ks.filter fun k => !(k.num == r)).map KV.flat).map (·.1)), (ks.filter fun k => !(k.num == r)).map KV.flat), decide (((ks.filter fun k => !(k.num == r)).map KV.flat).length < (ks.map KV.flat).length), 0) := by
      unfold takeP
      rw [hra, if_neg (by simp)]
      have hf : (ks.map KV.flat).filter (fun k => !(k.1 == r)) = (ks.filter fun k => !(k.num == r)).map KV.flat := by
        rw [List.filter_map]; rfl
      show ((id, next, ackP next (((ks.map KV.flat).filter fun k => !(k.1 == r)).map (·.1)), (ks.map KV.flat).filter fun k => !(k.1 == r)), decide (((ks.map KV.flat).filter fun k => !(k.1 == r)).length < (ks.map KV.flat).length), 0) = _
      rw [hf]
    rw [e, amap]
    obtain ⟨i0, hi0, hz0, hz1, hz2⟩ := info_parts info69z
    replace e := hid e
    replace hra := hid hra
    replace hea := hid hea
    replace h8 := hid h8
    go_enter Try.func27, Try.ntmps27
    go_wp2_with fail
    refine (rref_any id next acked a n c lo ks _ hl.out hK1 (by omega)).mono ?_
    rintro e w2 ⟨rfl, hb2⟩
    rw [hra.out]
    have B2 := bnext b1 hb2
    have q1 := p1.out.below hb2
    have q2 := p2.out.below hb2
    have c0 := q1.cell0
    have c1 := q1.cell1
    have c2 := q1.cell2
    have c3 := q1.cell3
    have d0 := q2.cell0
    have d1 := q2.cell1
    have d2 := q2.cell2
    have d3 := q2.cell3
    have f0 := q2.free 0
    have f1 := q2.free 1
    have f2 := q2.free 2
    have f3 := q2.free 3
    have hK2 := (hK1.below hb2).le (Nat.zero_le lo)
    have hoff : Hid (∀ k ∈ ks, k.body ≠ [] → ∀ x, k.a = some x → ¬ (x.block = w.heap.size ∨ x.block = w.heap.size + 1)) := hid fun k hk hne x hx e => by have := At.blk (h.body k hk) hne x hx; omega
    have hsz2 : w.heap.size + 2 ≤ w2.heap.size := by have := hb2.size; simp at this; omega
    replace hK1 := hid hK1
    clear d0 d1 d2 d3 f0 f1 f2 f3 c0 c1 c2
    replace q2 := hid q2
    replace q1 := hid q1
    clear c3
    go_wp2_with fail
    go_loopw [7, 8, 9] (fun v b i wr => ∃ j : Nat, j ≤ n ∧ i = .int .i64 (j : Int) ∧ TkI w2 wr ks r j v b) (fun _ _ i _ => n - (intOf i).toNat)
    case atStart => exact ⟨0, Nat.zero_le _, rfl, rfl, World.ownsRow_nil _ _ _ _, Below.refl _ _⟩
    case round =>
      obtain ⟨j, hj, rfl, rfl, hown, hB⟩ := hrel
      have q1r := q1.out.below hB
      have c3 := q1r.cell3
      by_cases hlt : j < n
      · have hjL : j < ks.length := by rw [hl.out]; exact hlt
        obtain ⟨b, o, e⟩ := h.place (by intro e; rw [e] at hjL; simp at hjL)
        subst e
        have hr := hK2.below hB
        obtain ⟨x0, x1⟩ := hr.one j hjL
        have hkeep := fun hp => filter_take_keep (L := ks) hjL (fun x => x == r) hp
        have hdrop := fun hp => filter_take_drop (L := ks) hjL (fun x => x == r) hp
        have hle : ((ks.take j).filter fun k => !(k.num == r)).length ≤ j := by
          refine Nat.le_trans (List.length_filter_le _ _) ?_
          simp; omega
        obtain ⟨q, hq⟩ : ∃ q, q = ks[j] := ⟨_, rfl⟩
        rw [← hq] at x0 x1 hkeep hdrop
        have hqc : q.cells = [.int .i64 q.num, .slice q.a q.body.length q.c] := rfl
        obtain ⟨F, hF⟩ : ∃ F, F = ((ks.take j).filter fun k => !(k.num == r)) := ⟨_, rfl⟩
        rw [← hF] at hown hle hkeep hdrop ⊢
        obtain ⟨m, hm⟩ : ∃ m, F.length = m := ⟨_, rfl⟩
        rw [hm] at hown hle ⊢
        obtain ⟨Fc, hFc⟩ : ∃ Fc, Fc = F.flatMap KV.cells := ⟨_, rfl⟩
        rw [← hFc] at hown
        generalize hX : q.num = X at x0 hqc hkeep hdrop
        generalize q.a = ka at x1 hqc
        generalize q.body.length = kn at x1 hqc
        generalize q.c = kc at x1 hqc
        replace hkeep := hid hkeep
        replace hdrop := hid hdrop
        replace hqc := hid hqc
        replace hX := hid hX
        replace hq := hid hq
        replace hF := hid hF
        replace hFc := hid hFc
        replace hm := hid hm
        replace hr := hid hr
        replace q1r := hid q1r
        by_cases hp : (X == r) = true
        · have hD := hdrop.out hp
          have hTk : TkI w2 wr ks r (j + 1) u7 (.bool true) := by
            unfold TkI
            rw [hD, hm.out, ← hFc.out]
            exact ⟨by rw [decide_eq_true (by omega : m < j + 1)], hown, hB⟩
          replace hTk := hid hTk
          replace hown := hid hown
          replace hD := hid hD
          go_wp2_with fail
          go_roundw
          case rel => exact ⟨j + 1, by omega, by go_num, hTk.out⟩
          case measure => simp [intOf]; omega
        · have hpf : (X == r) = false := by simpa using hp
          have hD := hkeep.out hpf
          have bl6 := below_lit wr (.cells #[.int .i64 X, .slice ka kn kc] 69)
          have hown6 := hid (owns_below hown bl6)
          have hcl := hid (cat_lit wr 69 [.int .i64 X, .slice ka kn kc] _ rfl)
          have hbase : w2.heap.size ≤ (wr.alloc (.cells #[.int .i64 X, .slice ka kn kc] 69)).heap.size := Nat.le_trans hB.size bl6.size
          replace hbase := hid hbase
          replace hD := hid hD
          replace hp := hid hp
          go_wp2_with (at_builtin; refine Hid.out ?_)
          refine hid ?_
          refine wpList_cat _ rfl (.tmp 29) (.tmp 35) 39 rfl w2.heap.size 69 i0 _ 2 32 Try.underlying39 hi0 hz0 hz1 hz2 rfl (by omega) u7 m Fc rfl hown6.out (some ⟨wr.heap.size, 0, none⟩) 1 1 [.int .i64 X, .slice ka kn kc] rfl rfl hcl.out (by simp [Value.oneCell']) (by unfold maxLen; omega) (by omega) hbase.out ?_
          intro v7 w7 hr7 hg7 hv7
          have hTk : TkI w2 w7 ks r (j + 1) v7 (.bool (decide (m < j))) := by
            unfold TkI
            have e1 : (F ++ [q]).length = m + 1 := by simp [hm.out]
            have e2 : (F ++ [q]).flatMap KV.cells = Fc ++ [.int .i64 X, .slice ka kn kc] := by rw [List.flatMap_append, hFc.out]; simp [hqc.out]
            rw [hD.out, e1, e2]
            refine ⟨?_, hr7, ?_⟩
            · congr 1
              rw [Bool.eq_iff_iff]
              simp
            · exact (hB.trans (bl6.mono hB.size)).trans ((Kp.grown hg7).below (fun k hk => (World.ownsRow.lt hown k hk).1) hbase.out)
          replace hTk := hid hTk
          go_wp2_with fail
          go_roundw
          case rel => exact ⟨j + 1, by omega, by go_num, hTk.out⟩
          case measure => simp [intOf]; omega
      · obtain rfl : j = n := by omega
        have htk : ks.take j = ks := by rw [← hl.out]; exact List.take_length
        rw [htk] at hown ⊢
        obtain ⟨F, hF⟩ : ∃ F, F = (ks.filter fun k => !(k.num == r)) := ⟨_, rfl⟩
        rw [← hF] at hown ⊢
        have hFm : ∀ k ∈ F, k ∈ ks := fun k hk => by rw [hF] at hk; exact (List.mem_filter.1 hk).1
        obtain ⟨a5, c5, rfl, hc5⟩ := owns_form hown
        have hKA := katOf hK2 hFm hown hB
        obtain ⟨m, hm⟩ : ∃ m, F.length = m := ⟨_, rfl⟩
        have hmn : m ≤ 8 := by have : F.length ≤ ks.length := by rw [hF]; exact List.length_filter_le _ _
                               rw [hm, hl.out] at this; omega
        rw [hm] at hown hc5 ⊢
        have q2r := q2.out.below hB
        have f3 := q1r.free 3
        have r15 := q1r.set3 (.slice a5 m c5)
        have hk6 : Kp (fun k => k = w.heap.size) wr (wr.setCell ⟨w.heap.size, 3, none⟩ (.slice a5 m c5)) := (Kp.refl (fun k => k = w.heap.size) wr).setCell (p := ⟨w.heap.size, 3, none⟩) rfl _
        have ha5 : ∀ x, a5 = some x → w2.heap.size ≤ x.block := fun x hx => (World.ownsRow.lt hown x.block (by rw [hx]; rfl)).1
        have hKA6 := katKp2 hKA hk6 (fun k hk hne x hx e => hoff.out k (hFm k hk) hne x hx (.inl e)) (fun x hx e => by have := ha5 x hx; omega)
        have hks : ∀ k ∈ F, 0 < k.num ∧ k.num ≤ MM := fun k hk => by
          have hk' : k.num ∈ ks.map KV.num := List.mem_map.2 ⟨k, hFm k hk, rfl⟩
          have key : ∀ (lo hi : Int) (l : List Int), riseB lo hi l = true → ∀ x ∈ l, lo < x ∧ x ≤ hi := by
            intro lo hi l
            induction l generalizing lo with
            | nil => intro _ x hx; simp at hx
            | cons y r ih =>
              intro hr x hx
              simp only [riseB, Bool.and_eq_true, decide_eq_true_eq] at hr
              rcases List.mem_cons.1 hx with rfl | hx
              · exact hr.1
              · have := ih y hr.2 x hx
                omega
          have := key _ _ _ hrise _ hk'
          omega
        have hans := ackref_any id next acked a5 m c5 0 F (wr.setCell ⟨w.heap.size, 3, none⟩ (.slice a5 m c5)) hm hKA6 hne1 hks
        have c0 := q1r.cell0
        have c1 := q1r.cell1
        have c2 := q1r.cell2
        replace hans := hid hans
        replace hF := hid hF
        replace hm := hid hm
        replace htk := hid htk
        replace hks := hid hks
        replace hKA := hid hKA
        replace hKA6 := hid hKA6
        replace hown := hid hown
        replace q1r := hid q1r
        replace q2r := hid q2r
        replace r15 := hid r15
        replace hk6 := hid hk6
        replace hrise := hid hrise
        go_wp2_with fail
        refine hans.out.mono ?_
        rintro e w7 ⟨rfl, hb7⟩
        obtain ⟨A, hA⟩ : ∃ A, A = ackP next (F.map KV.num) := ⟨_, rfl⟩
        rw [← hA]
        have r17 := r15.out.below hb7
        have k37 := (q2r.out.kp hk6.out (fun e => by omega)).below hb7
        have x0 := r17.cell0
        have x1 := r17.cell1
        have x2 := r17.cell2
        have x3 := r17.cell3
        have fx2 := r17.free 2
        have y0 := k37.cell0
        have y1 := k37.cell1
        have y2 := k37.cell2
        have y3 := k37.cell3
        have z0 := k37.free 0
        have z1 := k37.free 1
        have z2 := k37.free 2
        have z3 := k37.free 3
        have rf := hid ((k37.other w.heap.size 2 (.int .i64 A) (by omega)).set (.int .i64 id) (.int .i64 next) (.int .i64 A) (.slice a5 m c5))
        have hk7 : Kp (fun k => k = w.heap.size ∨ k = w.heap.size + 1) w7 _ := (((((Kp.refl (fun k => k = w.heap.size ∨ k = w.heap.size + 1) w7).setCell (p := ⟨w.heap.size, 2, none⟩) (.inl rfl) (.int .i64 A)).setCell (p := ⟨w.heap.size + 1, 0, none⟩) (.inr rfl) (.int .i64 id)).setCell (p := ⟨w.heap.size + 1, 1, none⟩) (.inr rfl) (.int .i64 next)).setCell (p := ⟨w.heap.size + 1, 2, none⟩) (.inr rfl) (.int .i64 A)).setCell (p := ⟨w.heap.size + 1, 3, none⟩) (.inr rfl) (.slice a5 m c5)
        have hKf := hid (katKp2 (hKA6.out.below hb7) hk7 (fun k hk hne x hx e => hoff.out k (hFm k hk) hne x hx e) (fun x hx e => by have := ha5 x hx; omega))
        have hB6 : Below w.heap.size w (wr.setCell ⟨w.heap.size, 3, none⟩ (.slice a5 m c5)) := (bnext B2 hB).setCell (p := ⟨w.heap.size, 3, none⟩) (Nat.le_refl _) _
        have hB7 := bnext hB6 hb7
        have hBf := hid (hB7.trans (hk7.below (base := w.heap.size) (fun k hk => by omega) hB7.size))
        replace hk7 := hid hk7
        replace r17 := hid r17
        replace k37 := hid k37
        replace hA := hid hA
        go_wp2
        (try simp only [Exit.inBlock, Exit.then])
        refine bodyPost_ret (results_a3 rfl _ _ (w.heap.size + 1) _ _ _ _ rfl rf.out) rfl ?_
        refine ⟨a5, c5, F, ?_, ?_, hKf.out, hBf.out⟩
        · unfold askV
          simp only [List.length_map, ← hF.out, hm.out, hl.out]
          simp
          exact hA.out
        · rw [hF.out]

end Go.Proofs.Ythjggjjocfbjcaa
