/- Done. -/
import Derived.Test.YthjggjjocfbjcaaLook
import Derived.Deep.RegionHeld
namespace Go.Proofs.Ythjggjjocfbjcaa
open Go.RowKit

/-- The answer of Done lies in memory as the plain one R says. -/
def DonePost (R : List PC × Int) (w : World) (e : Ending) (w' : World) : Prop :=
  ∃ a' c' L', e = .returned (.tuple #[.slice a' R.1.length c', .int .i64 R.2]) ∧ L'.map CV.flat = R.1 ∧ LAt w' w.heap.size a' L' ∧ Below w.heap.size w w'

theorem done_none (n : Int) (w w' : World) (hb : Below w.heap.size w w') : DonePost ([], n) w (.returned (.tuple #[.slice none 0 0, .int .i64 n])) w' :=
  ⟨none, 0, [], rfl, rfl, LAt.nil _ _, hb⟩

theorem setCell_same {w : World} {g k : Nat} {v : Value} {cur : Array Value} {e : Nat} (hg : w.heap[g]? = some (.cells cur e (0, 0))) (h : w.cell? ⟨g, k, none⟩ = some v) : w.setCell ⟨g, k, none⟩ v = w := by
  rw [setCell_eq_setRow w g k cur e (0, 0) v hg]
  have hc : cur[k]? = some v := by simpa [World.cell?, hg] using h
  have e1 : cur.setIfInBounds k v = cur := by
    apply Array.ext
    · simp
    · intro i h1 h2
      rw [Array.getElem_setIfInBounds]
      split
      · rename_i hki
        subst hki
        have := Array.getElem?_eq_getElem h2
        rw [hc] at this
        exact Option.some.inj this
      · rfl
  rw [e1]
  exact setRow_self w g cur e (0, 0) hg

theorem KOwn.ins {w w' : World} {base n i : Nat} {v v' : Value} {ks : List KV} (k : KV) (h : KOwn 36 w base v ks) (hn : ks.length = n) (hk : Own w base (.slice k.a k.body.length k.c) k.body) (hs : k.body.length ≤ SMALL)
    (hr : w'.ownsRow base 36 2 v' (n + 1) ((ks.flatMap KV.cells).take (i * 2) ++ [.int .i64 k.num, .slice k.a k.body.length k.c] ++ (ks.flatMap KV.cells).drop (i * 2))) (hkp : Kp (fun g => v.ownBlock = some g) w w') :
    KOwn 36 w' base v' (ks.take i ++ k :: ks.drop i) := by
  have hmem : ∀ c ∈ ks.take i ++ k :: ks.drop i, c ∈ ks ∨ c = k := fun c hc => by
    rcases List.mem_append.1 hc with h1 | h1
    · exact .inl (List.mem_of_mem_take h1)
    · rcases List.mem_cons.1 h1 with h2 | h2
      · exact .inr h2
      · exact .inl (List.mem_of_mem_drop h2)
  refine ⟨?_, fun c hc => ?_, fun c hc => ?_⟩
  · have hlen : (ks.take i ++ k :: ks.drop i).length = n + 1 := by simp; omega
    have e : (ks.take i ++ k :: ks.drop i).flatMap KV.cells = (ks.flatMap KV.cells).take (i * 2) ++ [.int .i64 k.num, .slice k.a k.body.length k.c] ++ (ks.flatMap KV.cells).drop (i * 2) := by
      rw [List.flatMap_append, List.flatMap_cons, ktake, kdrop]
      simp [KV.cells]
    rw [hlen, e]
    exact hr
  · rcases hmem c hc with h1 | rfl
    · exact (h.own c h1).kp hkp (own_off (h.own c h1) h.row (by decide))
    · exact hk.kp hkp (own_off hk h.row (by decide))
  · rcases hmem c hc with h1 | rfl
    · exact h.short c h1
    · exact hs

set_option maxRecDepth 100000 in
set_option maxHeartbeats 4000000 in
theorem done_ok (a : Option Addr) (n c lo : Nat) (L : List CV) (cl r : Int) (ra : Option Addr) (rl rc : Nat) (reply : List UInt8) (w : World) (hL : L.length = n) (h : LAt w lo a L) (hrl : reply.length = rl) (hrs : rl ≤ 140737488355328) (hat : At w ra reply) (hr : rightP (L.map CV.flat) = true) (i p : Nat) (hil : i < L.length) (hpp : placeP cl (L.map CV.id) = (i, true)) (q : CV) (hq : q = L[i]) (h2 : numP r = true) (d3 : decide (r ≤ q.fl) = false) (hp2 : placeP r (q.ks.map KV.num) = (p, false)) (hple : p ≤ q.ks.length) (hrl64 : rl ≤ 65536) (h5 : ¬ q.ks.length = 8) :
    Calls Try.prog 9 #[.slice a n c, .int .i64 cl, .int .i64 r, .slice ra rl rc] w (DonePost ((L.map CV.flat).set i (q.id, q.fl, (q.ks.map KV.flat).take p ++ (r, reply) :: (q.ks.map KV.flat).drop p), 0) w) := by
  have hn16 := right_len hr
  rw [List.length_map, hL] at hn16
  have hn : n ≤ 9000000000000000000 := by omega
  have h8 := right_kept hr
  have hin : i < n := by rw [← hL]; exact hil
  have hq8 : q.ks.length ≤ 8 := by rw [hq]; exact h8 _ (List.getElem_mem hil)
  have d4 : decide ((65536 : Int) < (rl : Int)) = false := by simp; omega
  replace hL := hid hL
  replace hr := hid hr
  replace hrl := hid hrl
  replace hpp := hid hpp
  replace h8 := hid h8
  replace hq := hid hq
  replace h2 := hid h2
  replace hp2 := hid hp2
  go_enter Try.func9, Try.ntmps9
  go_wp2_with fail
  refine (right_any a n c lo L _ hL.out h hn).mono ?_
  rintro e w2 ⟨rfl, hb2⟩
  rw [hr.out]
  have hB2 := h.below hb2
  go_wp2_with fail
  refine (place_c a n c lo cl L _ hL.out hB2 (by omega)).mono ?_
  rintro e w3 ⟨rfl, hb3⟩
  rw [hpp.out]
  have B3 := bnext hb2 hb3
  have hB3 := hB2.below hb3
  go_wp2_with fail
  refine (isnum_any r _).mono ?_
  rintro e w4 ⟨rfl, rfl⟩
  rw [h2.out]
  obtain ⟨b, o, e⟩ := hB3.place (by intro e; rw [e] at hil; simp at hil)
  subst e
  obtain ⟨x0, x1, x2⟩ := hB3.one i hil
  have hKA := hB3.kept _ (List.getElem_mem hil)
  rw [← hq.out] at x0 x1 x2 hKA
  obtain ⟨qid, qfl, qa, qc, qks⟩ := q
  simp only at x0 x1 x2 hKA hq8 d3 hp2 hple h5
  obtain ⟨m, hm⟩ : ∃ m, qks.length = m := ⟨_, rfl⟩
  rw [hm] at x2 hq8 hple h5
  replace hm := hid hm
  replace hKA := hid hKA
  replace hB3 := hid hB3
  replace hB2 := hid hB2
  have hK4 := hKA.out
  go_wp2_with fail
  refine (place_k qa m qc lo r qks _ hm.out hK4 (by omega)).mono ?_
  rintro e w5 ⟨rfl, hb5⟩
  rw [hp2.out]
  have B5 := bnext B3 hb5
  have z2 : w5.cell? ⟨b, o + i * 3 + 2, none⟩ = some (.slice qa m qc) := by rw [hb5.cell (p := ⟨b, o + i * 3 + 2, none⟩) (World.block_lt_of_cell? _ _ x2)]; exact x2
  have d8 : ((m : Int) == 8) = false := by simp; omega
  have hLA5 := hid (hB3.out.below hb5)
  replace hK4 := hid hK4
  go_wp2_with fail
  refine (copied_c _ n c lo L _ hL.out hLA5.out (by omega) h8.out).mono ?_
  rintro e w6 ⟨v6, Q, rfl, hQ, hO6, hb6⟩
  have B6 := bnext B5 hb6
  have hQl : Q.length = n := by have := congrArg List.length hQ; simp at this; rw [this]; exact hL.out
  obtain ⟨a6, c6, rfl, hc6⟩ := owns_form hO6.row
  rw [hQl] at hO6 hc6 ⊢
  replace hQ := hid hQ
  replace hO6 := hid hO6
  replace hQl := hid hQl
  go_wp2_with fail
  refine (bclone_any ra rc rl reply _ hrl.out hrs (hat.below B6)).mono ?_
  rintro e w7 ⟨a7, c7, rfl, ho7, hb7⟩
  have B7 := bnext B6 hb7
  have b8 := below_lit w7 (.cells #[.int .i64 r, .slice a7 rl c7] 36)
  have T8 := TBlk.new 36 w7 (.int .i64 r) (.slice a7 rl c7)
  obtain ⟨w8, hw8⟩ : ∃ w8, w8 = w7.alloc (.cells #[.int .i64 r, .slice a7 rl c7] 36) := ⟨_, rfl⟩
  rw [← hw8] at b8 T8
  have hz8 : w8.heap.size = w7.heap.size + 1 := by rw [hw8]; simp
  have bd := drew_below w8
  have hO9 := ((hO6.out.below hb7).below b8).below bd
  have hB9 := bnext B7 (bnext b8 bd)
  have T9 := T8.below bd
  have hiQ : i < Q.length := by rw [hQl.out]; exact hin
  obtain ⟨g, rfl, -, hgc, hbg, hgl, hfz, y0, y1, y2⟩ := hO9.one i hiQ
  have hKO := hO9.own _ (List.getElem_mem hiQ)
  have hupd := fun w10 S hS hk x hx hxa => hid (COwn.upd (w2 := w10) hO9 hiQ S hS hk x hx hxa)
  have hQi : Q[i].flat = (qid, qfl, qks.map KV.flat) := by
    have := congrArg (fun l => l[i]?) hQ.out
    simp only [List.getElem?_map, List.getElem?_eq_getElem hiQ, List.getElem?_eq_getElem hil, Option.map_some, Option.some.injEq] at this
    rw [this, ← hq.out]; rfl
  obtain ⟨k, hkQ⟩ : ∃ k, k = Q[i] := ⟨_, rfl⟩
  rw [← hkQ] at y0 y1 y2 hKO hupd hQi
  replace hkQ := hid hkQ
  obtain ⟨kid, kfl, ka, kc, kks⟩ := k
  have e1 : kid = qid := congrArg (fun x : PC => x.1) hQi
  have e2 : kfl = qfl := congrArg (fun x : PC => x.2.1) hQi
  have e3 : kks.map KV.flat = qks.map KV.flat := congrArg (fun x : PC => x.2.2) hQi
  subst e1 e2
  have hkm : kks.length = m := by have := congrArg List.length e3; simp at this; rw [this]; exact hm.out
  simp only at y0 y1 y2 hKO hupd
  rw [hkm] at y2 hKO hupd
  have b10 := below_lit w8.drew (.cells #[.int .i64 r, .slice a7 rl c7] 36)
  obtain ⟨w10, hw10⟩ : ∃ w10, w10 = w8.drew.alloc (.cells #[.int .i64 r, .slice a7 rl c7] 36) := ⟨_, rfl⟩
  have hv10 : w10.heap[w7.heap.size + 1]? = some (.cells [Value.int .i64 r, .slice a7 rl c7].toArray 36 (0, 0)) := by
    rw [hw10, ← hz8]; exact heap_alloc_new w8.drew _
  rw [← hw10] at b10
  have hK10 := hKO.below b10
  have hr10 := hK10.row
  rw [hkm] at hr10
  have ho10 := (((ho7.below b8).below bd).below b10).le hb6.size
  have hsz : w7.heap.size + 1 = w8.drew.heap.size := hz8.symm
  have hins := insert_k ka m kc p (w7.heap.size + 1) (kks.flatMap KV.cells) [.int .i64 r, .slice a7 rl c7] w10 w5.heap.size (by omega) hple hr10 (Nat.le_trans hb6.size (bnext hb7 (bnext b8 (bnext bd b10))).size) hv10 rfl (fun e => by have := (World.ownsRow.lt hKO.row _ e).2; omega) (by simp [Value.oneCell']) (kcells_one kks)
  have hgne : ∀ k, (Value.slice ka m kc).ownBlock = some k → k ≠ g := fun k hk e => by subst e; have h1 := hKO.row; rw [hkm] at h1; exact rows_off h1 hO9.row (by decide) _ hk rfl
  have hgl10 : g < w10.heap.size := Nat.lt_of_lt_of_le hgl b10.size
  have hcW : ∀ w11, Kp (fun k => (Value.slice ka m kc).ownBlock = some k) w10 w11 → w11.cell? ⟨g, i * 3 + 2, none⟩ = some (.slice ka m kc) ∧ w11.frozen? ⟨g, i * 3 + 2, none⟩ = false ∧ w11.setCell ⟨g, i * 3, none⟩ (.int .i64 kid) = w11 ∧ w11.setCell ⟨g, i * 3 + 1, none⟩ (.int .i64 kfl) = w11 := fun w11 hk => by
    have hh : w11.heap[g]? = w8.drew.heap[g]? := (hk.block g hgl10 (fun e => hgne g e rfl)).trans (b10.block g hgl)
    have hcell : ∀ o v, w8.drew.cell? ⟨g, o, none⟩ = some v → w11.cell? ⟨g, o, none⟩ = some v := fun o v hv => by
      rw [World.cell?_of_block (w := w8.drew) (a := ⟨g, o, none⟩) hh]; exact hv
    have hblk : ∃ cur, w11.heap[g]? = some (.cells cur 34 (0, 0)) := by
      rcases hO9.row.2 with ⟨hn0, _⟩ | ⟨g', cap, cur, hh', _, hg', _⟩
      · cases hn0
      · cases hh'
        exact ⟨cur, by rw [hh]; exact hg'⟩
    obtain ⟨cur, hcur⟩ := hblk
    refine ⟨hcell _ _ y2, ?_, setCell_same hcur (hcell _ _ y0), setCell_same hcur (hcell _ _ y1)⟩
    have : w11.frozen? ⟨g, i * 3 + 2, none⟩ = w8.drew.frozen? ⟨g, i * 3 + 2, none⟩ := by unfold World.frozen?; rw [hh]
    rw [this]; exact hfz _
  have t0 := T9.cell0
  have t1 := T9.cell1
  have y2' := (hid (World.cell?_of_block (w := w8.drew) (w' := w10) (a := ⟨g, i * 3 + 2, none⟩) (b10.block g hgl))).out.trans y2
  rw [hw10, hw8] at y2'
  replace y2' : ((w7.alloc (.cells #[.int .i64 r, .slice a7 rl c7] 36)).alloc (.cells #[.int .i64 r, .slice a7 rl c7] 36)).drew.cell? ⟨g, i * 3 + 2, none⟩ = some (.slice ka m kc) := y2'
  rw [hw8] at t0 t1 y2
  rw [hw10, hw8] at hins
  have hpm : (p : Int) ≤ m := by omega
  replace hins := hid hins
  replace hcW := hid hcW
  replace hupd := hid hupd
  replace hKO := hid hKO
  replace hK10 := hid hK10
  replace ho10 := hid ho10
  replace hO9 := hid hO9
  replace T9 := hid T9
  replace T8 := hid T8
  replace hfz := hid hfz
  replace hr10 := hid hr10
  replace hv10 := hid hv10
  replace hkm := hid hkm
  replace hQi := hid hQi
  replace hw8' := hid hw8
  replace hw10 := hid hw10
  replace hz8 := hid hz8
  replace hsz := hid hsz
  replace e3 := hid e3
  replace ho7 := hid ho7
  clear hw8
  go_wp2_with fail
  go_region_with
    (first | (go_at_call 45; refine hins.out.mono ?_; rintro e w11 ⟨v11, rfl, hr11, hk11, hv11⟩; obtain ⟨a11, c11, rfl, hc11⟩ := owns_form hr11; have hcc := hcW.out w11 (by rw [hw10.out, hw8'.out]; exact hk11); have u0 := hcc.1; have u1 := hcc.2.1; replace hcc := hid hcc; replace hr11 := hid hr11; replace hk11 := hid hk11; replace hv11 := hid hv11))
  all_goals
    have hKx : KOwn 36 w11 w5.heap.size (.slice a11 (m + 1) c11) (kks.take p ++ ⟨r, a7, c7, reply⟩ :: kks.drop p) := by
      have hb' := ho10.out
      rw [← hrl.out] at hb'
      have hr' := hr11.out
      rw [← hrl.out] at hr'
      exact KOwn.ins (n := m) ⟨r, a7, c7, reply⟩ hK10.out hkm.out hb' (by show reply.length ≤ SMALL; rw [hrl.out]; unfold SMALL; exact hrs) hr' (by rw [hw10.out, hw8'.out]; exact hk11.out)
    have hlx : (kks.take p ++ (⟨r, a7, c7, reply⟩ : KV) :: kks.drop p).length = m + 1 := by
      have := hkm.out
      simp; omega
    have hk10 : Kp (fun k => (Value.slice ka m kc).ownBlock = some k) w8.drew w11 := (Kp.of_below (by rw [hw10.out, hw8'.out] at b10; rw [hw8'.out]; exact b10)).trans hk11.out
    have hOf := (hupd.out w11 (fun k => (Value.slice ka m kc).ownBlock = some k) (fun k hk => .inl hk) hk10 ⟨kid, kfl, a11, c11, kks.take p ++ ⟨r, a7, c7, reply⟩ :: kks.drop p⟩ (by rw [hlx]; exact hKx) (fun y hy => by
      rcases hv11.out y.block (by simp only at hy; rw [hy]; rfl) with h1 | h1
      · exact .inl h1
      · refine .inr (Nat.le_trans ?_ h1)
        rw [hw8'.out]
        simp)).out
    simp only at hOf
    rw [hcc.out.2.2.1, hcc.out.2.2.2, hlx] at hOf
    have hBf : Below w.heap.size w (w11.setCell ⟨g, i * 3 + 2, none⟩ (.slice a11 (m + 1) c11)) := by
      have h1 : Kp (fun k => w.heap.size ≤ k) w w11 := Kp.next (Kp.of_below (S := fun k => w.heap.size ≤ k) hB9) hk10 (fun k _ e => Nat.le_trans B5.size (World.ownsRow.lt hKO.out.row k e).1)
      exact (h1.setCell (p := ⟨g, i * 3 + 2, none⟩) (Nat.le_trans B5.size hbg) _).below (fun k h => h) (Nat.le_refl _)
    have hres : (Q.set i ⟨kid, kfl, a11, c11, kks.take p ++ ⟨r, a7, c7, reply⟩ :: kks.drop p⟩).map CV.flat = (L.map CV.flat).set i (kid, kfl, (qks.map KV.flat).take p ++ (r, reply) :: (qks.map KV.flat).drop p) := by
      rw [cset, hQ.out]
      congr 1
      show (kid, kfl, (kks.take p ++ (⟨r, a7, c7, reply⟩ : KV) :: kks.drop p).map KV.flat) = _
      rw [List.map_append, List.map_cons, List.map_take, List.map_drop, e3.out]
      rfl
    replace hOf := hid hOf
    replace hBf := hid hBf
    replace hKx := hid hKx
    replace hk10 := hid hk10
    replace hres := hid hres
    go_wp2
    go_ret2
    refine ⟨some ⟨g, 0, none⟩, c6, _, ?_, hres.out, (hOf.out.lat).le B5.size, hBf.out⟩
    simp only [List.length_set, List.length_map, hL.out]
    rfl

end Go.Proofs.Ythjggjjocfbjcaa
