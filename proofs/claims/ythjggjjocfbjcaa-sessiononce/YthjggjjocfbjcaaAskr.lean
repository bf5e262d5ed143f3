/- An asker: answeredUpTo, RightAsker, Begin. -/
import Derived.Test.YthjggjjocfbjcaaDel
import Derived.Test.YthjggjjocfbjcaaValsA
import Derived.Deep.RegionHeld
namespace Go.Proofs.Ythjggjjocfbjcaa
open Go.RowKit

/-- Up to where all is answered. -/
def ackP (next : Int) : List Int → Int
  | [] => next - 1
  | k :: _ => k - 1

def rightA (a : PA) : Bool := ((numP a.1 && numP a.2.1) && riseB 0 (a.2.1 - 1) (a.2.2.2.map (·.1))) && ((a.2.2.1 == ackP a.2.1 (a.2.2.2.map (·.1))) && decide (a.2.1 - 1 - a.2.2.1 ≤ 8))

def askP (a : PA) (body : List UInt8) : PA × Int × Int :=
  if !rightA a then ((0, 0, 0, []), 0, 2)
  else if 65536 < body.length then ((0, 0, 0, []), 0, 3)
  else if a.2.1 - 1 - a.2.2.1 = 8 then ((0, 0, 0, []), 0, 7)
  else if a.2.1 = 4611686018427387904 then ((0, 0, 0, []), 0, 5)
  else ((a.1, a.2.1 + 1, a.2.2.1, a.2.2.2 ++ [(a.2.1, body)]), a.2.1, 0)

def takeP (a : PA) (r : Int) : PA × Bool × Int :=
  if !rightA a then ((0, 0, 0, []), false, 2)
  else ((a.1, a.2.1, ackP a.2.1 ((a.2.2.2.filter fun k => !(k.1 == r)).map (·.1)), a.2.2.2.filter fun k => !(k.1 == r)), decide ((a.2.2.2.filter fun k => !(k.1 == r)).length < a.2.2.2.length), 0)

def beginP (id : Int) : PA × Int := if numP id then ((id, 1, 0, []), 0) else ((0, 0, 0, []), 2)

set_option maxRecDepth 100000 in
set_option maxHeartbeats 400000 in
theorem rise_ww (a : Option Addr) (n c lo : Nat) (low high : Int) (L : List KV) (w : World) (hL : L.length = n) (h : KAt w lo a L) (hn : n ≤ 4000000000000000000) :
    Calls Try.prog 53 #[.slice a n c, .int .i64 low, .int .i64 high, .func (.func 54) #[] #[]] w fun e w' => e = .returned (.bool (riseB low high (L.map KV.num))) ∧ Below w.heap.size w w' := by
  replace hL := hid hL
  go_enter Try.func53, Try.ntmps53
  go_wp2_with fail
  go_loopw [1, 14] (fun l i wr => ∃ j : Nat, ∃ low' : Int, j ≤ n ∧ l = .int .i64 low' ∧ i = .int .i64 (j : Int) ∧ Hid (riseB low high (L.map KV.num) = riseB low' high ((L.map KV.num).drop j)) ∧ Below w.heap.size w wr) (fun _ i _ => n - (intOf i).toNat)
  case atStart => exact ⟨0, low, Nat.zero_le _, rfl, rfl, hid (by simp), Below.refl _ _⟩
  case round =>
    obtain ⟨j, low', hj, rfl, rfl, hre, hb⟩ := hrel
    by_cases hlt : j < n
    · have hjL : j < L.length := by rw [hL.out]; exact hlt
      obtain ⟨b, o, e⟩ := h.place (by intro e; rw [e] at hjL; simp at hjL)
      subst e
      have hr := h.below hb
      obtain ⟨x0, x1⟩ := hr.one j hjL
      replace hr := hid hr
      have hd := rise_drop high (L.map KV.num) j (by simpa using hjL) low'
      rw [List.getElem_map] at hd
      replace hre := hid (hre.out.trans hd)
      generalize L[j].num = X at x0 hre
      clear hd
      generalize L[j].a = ka at x1
      generalize L[j].body.length = kn at x1
      generalize L[j].c = kc at x1
      have b2 := below_lit wr (.cells #[.int .i64 X, .slice ka kn kc] 69)
      have bb := bnext hb b2
      go_wp2_with fail
      refine (wreq_any X _ _).mono ?_
      rintro e w2 ⟨rfl, hb2⟩
      have bc := bnext bb hb2
      by_cases h1 : X ≤ low'
      · have d1 : decide (X ≤ low') = true := by simpa using h1
        have hfin := hid (hre.out.trans (show _ = false by rw [show decide (low' < X) = false by simp; omega]; rfl))
        replace hre := hid hre
        go_wp2
        go_ret
        exact ⟨ret_bool hfin.out.symm, bc⟩
      · have d1 : decide (X ≤ low') = false := by simpa using h1
        by_cases h2 : high < X
        · have d2 : decide (high < X) = true := by simpa using h2
          have hfin := hid (hre.out.trans (show _ = false by rw [show decide (X ≤ high) = false by simp; omega]; simp))
          replace hre := hid hre
          go_wp2
          go_ret
          exact ⟨ret_bool hfin.out.symm, bc⟩
        · have d2 : decide (high < X) = false := by simpa using h2
          have hfin := hid (hre.out.trans (show _ = riseB X high ((L.map KV.num).drop (j + 1)) by rw [show decide (low' < X) = true by simp; omega, show decide (X ≤ high) = true by simp; omega]; rfl))
          replace hre := hid hre
          go_wp2_with fail
          go_roundw
          case rel => exact ⟨j + 1, X, by omega, rfl, by go_num, hfin, bc⟩
          case measure => simp [intOf]; omega
    · obtain rfl : j = n := by omega
      have hfin := hid (hre.out.trans (show _ = true by rw [List.drop_eq_nil_of_le (by simp [hL.out])]; rfl))
      replace hre := hid hre
      go_wp2
      go_ret
      exact ⟨ret_bool hfin.out.symm, hb⟩

/-- An asker in a block. -/
def ABlk (w : World) (g : Nat) (x y z s : Value) : Prop := w.heap[g]? = some (.cells #[x, y, z, s] 41 (0, 0))
theorem ABlk.new (w : World) (x y z s : Value) : ABlk (w.alloc (.cells #[x, y, z, s] 41)) w.heap.size x y z s := heap_alloc_new w _
section
variable {w : World} {g : Nat} {x y z s : Value}
theorem ABlk.lt (h : ABlk w g x y z s) : g < w.heap.size := (Array.getElem?_eq_some_iff.1 h).1
theorem ABlk.below {w' : World} (h : ABlk w g x y z s) (hb : Below w.heap.size w w') : ABlk w' g x y z s := by unfold ABlk; rw [hb.block g h.lt]; exact h
theorem ABlk.cell0 (h : ABlk w g x y z s) : w.cell? ⟨g, 0, none⟩ = some x := by unfold ABlk at h; simp [World.cell?, h]
theorem ABlk.cell1 (h : ABlk w g x y z s) : w.cell? ⟨g, 1, none⟩ = some y := by unfold ABlk at h; simp [World.cell?, h]
theorem ABlk.cell2 (h : ABlk w g x y z s) : w.cell? ⟨g, 2, none⟩ = some z := by unfold ABlk at h; simp [World.cell?, h]
theorem ABlk.cell3 (h : ABlk w g x y z s) : w.cell? ⟨g, 3, none⟩ = some s := by unfold ABlk at h; simp [World.cell?, h]
theorem ABlk.free (h : ABlk w g x y z s) (j : Nat) : w.frozen? ⟨g, j, none⟩ = false := by unfold ABlk at h; simp [World.frozen?, h]
theorem ABlk.other (h : ABlk w g x y z s) (g2 k : Nat) (v : Value) (hne : g2 ≠ g) : ABlk (w.setCell ⟨g2, k, none⟩ v) g x y z s := by
  unfold ABlk at *
  rw [Below.heap_setCell _ _ _ _ (show g ≠ g2 from fun e => hne e.symm)]
  exact h
theorem ABlk.kp {S : Nat → Prop} {w' : World} (h : ABlk w g x y z s) (hk : Kp S w w') (hn : ¬ S g) : ABlk w' g x y z s := by unfold ABlk; rw [hk.block g h.lt hn]; exact h
theorem ABlk.set0 (h : ABlk w g x y z s) (v : Value) : ABlk (w.setCell ⟨g, 0, none⟩ v) g v y z s := by
  unfold ABlk at *; rw [setCell_eq_setRow w g 0 _ 41 (0, 0) _ h, setRow_heap w g _ _ 41 _ h]; simp
theorem ABlk.set1 (h : ABlk w g x y z s) (v : Value) : ABlk (w.setCell ⟨g, 1, none⟩ v) g x v z s := by
  unfold ABlk at *; rw [setCell_eq_setRow w g 1 _ 41 (0, 0) _ h, setRow_heap w g _ _ 41 _ h]; simp
theorem ABlk.set2 (h : ABlk w g x y z s) (v : Value) : ABlk (w.setCell ⟨g, 2, none⟩ v) g x y v s := by
  unfold ABlk at *; rw [setCell_eq_setRow w g 2 _ 41 (0, 0) _ h, setRow_heap w g _ _ 41 _ h]; simp
theorem ABlk.set3 (h : ABlk w g x y z s) (v : Value) : ABlk (w.setCell ⟨g, 3, none⟩ v) g x y z v := by
  unfold ABlk at *; rw [setCell_eq_setRow w g 3 _ 41 (0, 0) _ h, setRow_heap w g _ _ 41 _ h]; simp
theorem ABlk.set (h : ABlk w g x y z s) (a b c d : Value) : ABlk ((((w.setCell ⟨g, 0, none⟩ a).setCell ⟨g, 1, none⟩ b).setCell ⟨g, 2, none⟩ c).setCell ⟨g, 3, none⟩ d) g a b c d := (((h.set0 a).set1 b).set2 c).set3 d
end

theorem below_set4 {base : Nat} {a w : World} (h : Below base a w) (g : Nat) (hg : base ≤ g) (x y z s : Value) : Below base a ((((w.setCell ⟨g, 0, none⟩ x).setCell ⟨g, 1, none⟩ y).setCell ⟨g, 2, none⟩ z).setCell ⟨g, 3, none⟩ s) :=
  (((h.setCell (p := ⟨g, 0, none⟩) hg x).setCell (p := ⟨g, 1, none⟩) hg y).setCell (p := ⟨g, 2, none⟩) hg z).setCell (p := ⟨g, 3, none⟩) hg s

theorem info41 : (Try.prog.info? 41).map (·.size) = some 4 := by kernel_rfl

theorem results_a2 {fn : Func} {p u : Tmp} (h : fn.results = #[.cell p 41, .tmp u]) (tmps : Array Value) (w : World) (g : Nat) (x y z s : Value)
    (hp : tmps.getD p undef = .pointer (some ⟨g, 0, none⟩)) (hg : ABlk w g x y z s) :
    (results fn tmps).run Try.prog w = .ok (.tuple #[.agg #[x, y, z, s], tmps.getD u undef]) w := by
  have hp' : tmps[p]?.getD undef = .pointer (some ⟨g, 0, none⟩) := by simpa using hp
  simp [results, h, hp', asAddr, run_loadVar_row (P := Try.prog) w g 41 41 _ (0, 0) _ hg Try.underlying41 rfl info41]

theorem results_a3 {fn : Func} {p u v : Tmp} (h : fn.results = #[.cell p 41, .tmp u, .tmp v]) (tmps : Array Value) (w : World) (g : Nat) (x y z s : Value)
    (hp : tmps.getD p undef = .pointer (some ⟨g, 0, none⟩)) (hg : ABlk w g x y z s) :
    (results fn tmps).run Try.prog w = .ok (.tuple #[.agg #[x, y, z, s], tmps.getD u undef, tmps.getD v undef]) w := by
  have hp' : tmps[p]?.getD undef = .pointer (some ⟨g, 0, none⟩) := by simpa using hp
  simp [results, h, hp', asAddr, run_loadVar_row (P := Try.prog) w g 41 41 _ (0, 0) _ hg Try.underlying41 rfl info41]

theorem results_a1 {fn : Func} {p : Tmp} (h : fn.results = #[.cell p 41]) (tmps : Array Value) (w : World) (g : Nat) (x y z s : Value)
    (hp : tmps.getD p undef = .pointer (some ⟨g, 0, none⟩)) (hg : ABlk w g x y z s) :
    (results fn tmps).run Try.prog w = .ok (.agg #[x, y, z, s]) w := by
  have hp' : tmps[p]?.getD undef = .pointer (some ⟨g, 0, none⟩) := by simpa using hp
  simp [results, h, hp', asAddr, run_loadVar_row (P := Try.prog) w g 41 41 _ (0, 0) _ hg Try.underlying41 rfl info41]

set_option maxRecDepth 100000 in
set_option maxHeartbeats 1000000 in
theorem ansup_any (f : Nat) (hf : f = 52) (id next acked : Int) (a : Option Addr) (n c lo : Nat) (ks : List KV) (w : World) (hl : ks.length = n) (h : KAt w lo a ks) (hn1 : 1 ≤ next ∧ next ≤ MM) (hk1 : ∀ k ∈ ks, 0 < k.num ∧ k.num ≤ MM) (hnn : n ≤ 4000000000000000000) :
    Calls Try.prog f #[.agg #[.int .i64 id, .int .i64 next, .int .i64 acked, .slice a n c]] w fun e w' => e = .returned (.int .i64 (ackP next (ks.map KV.num))) ∧ Below w.heap.size w w' := by
  subst hf
  unfold MM at hn1 hk1
  have b1 := below_lit w (.cells #[.int .i64 id, .int .i64 next, .int .i64 acked, .slice a n c] 41)
  cases ks with
  | nil =>
    simp only [List.length_nil] at hl
    subst hl
    have hw : IntKind.i64.wrap (next - 1) = next - 1 := by rw [IntKind.wrap_i64]; omega
    go_enter Try.func52, Try.ntmps52
    go_wp2
    go_ret
    exact ⟨rfl, b1⟩
  | cons k r =>
    obtain ⟨b, o, e⟩ := h.place (by simp)
    subst e
    have h1 := h.below b1
    have x0 := (h1.one 0 (by simp)).1
    simp only [List.getElem_cons_zero, Nat.zero_mul, Nat.add_zero] at x0
    have hk := hk1 k (by simp)
    have hpos : 0 < n := by rw [← hl]; simp
    have hpi : (0 : Int) < n := by omega
    have hw : IntKind.i64.wrap (k.num - 1) = k.num - 1 := by rw [IntKind.wrap_i64]; omega
    generalize hX : k.num = X at x0 hk hw
    replace hX := hid hX
    replace hl := hid hl
    replace h1 := hid h1
    replace h := hid h
    have hbl : b < w.heap.size ∨ b = w.heap.size := by
      have := World.block_lt_of_cell? _ _ x0
      simp at this
      omega
    go_enter Try.func52, Try.ntmps52
    go_wp2
    go_ret
    exact ⟨ret_int (by show X - 1 = k.num - 1; rw [hX.out]), b1⟩

theorem amap (ks : List KV) : (ks.map KV.flat).map (·.1) = ks.map KV.num := by rw [List.map_map]; rfl

set_option maxRecDepth 100000 in
set_option maxHeartbeats 2000000 in
theorem righta_any (id next acked : Int) (a : Option Addr) (n c lo : Nat) (ks : List KV) (w : World) (hl : ks.length = n) (h : KAt w lo a ks) (hnn : n ≤ 4000000000000000000) (hin : -9223372036854775808 ≤ next ∧ next ≤ 9223372036854775807) :
    Calls Try.prog 14 #[.agg #[.int .i64 id, .int .i64 next, .int .i64 acked, .slice a n c]] w fun e w' => e = .returned (.bool (rightA (id, next, acked, ks.map KV.flat))) ∧ Below w.heap.size w w' := by
  have b1 := below_lit w (.cells #[.int .i64 id, .int .i64 next, .int .i64 acked, .slice a n c] 41)
  have P1 := ABlk.new w (.int .i64 id) (.int .i64 next) (.int .i64 acked) (.slice a n c)
  have hR : rightA (id, next, acked, ks.map KV.flat) = (((numP id && numP next) && riseB 0 (next - 1) (ks.map KV.num)) && ((acked == ackP next (ks.map KV.num)) && decide (next - 1 - acked ≤ 8))) := by
    show (((numP id && numP next) && riseB 0 (next - 1) ((ks.map KV.flat).map (·.1))) && ((acked == ackP next ((ks.map KV.flat).map (·.1))) && decide (next - 1 - acked ≤ 8))) = _
    rw [amap]
  rw [hR]
  clear hR
  replace hl := hid hl
  cases h1 : numP id with
  | false =>
    show Calls Try.prog 14 _ w fun e w' => e = .returned (.bool false) ∧ _
    replace h1 := hid h1
    go_enter Try.func14, Try.ntmps14
    go_wp2_with fail
    refine (isnum_any id _).mono ?_
    rintro e w2 ⟨rfl, rfl⟩
    rw [h1.out]
    go_wp2
    go_ret
    exact ⟨rfl, b1⟩
  | true =>
    cases h2 : numP next with
    | false =>
      show Calls Try.prog 14 _ w fun e w' => e = .returned (.bool false) ∧ _
      replace h1 := hid h1
      replace h2 := hid h2
      go_enter Try.func14, Try.ntmps14
      go_wp2_with fail
      refine (isnum_any id _).mono ?_
      rintro e w2 ⟨rfl, rfl⟩
      rw [h1.out]
      go_wp2_with fail
      refine (isnum_any next _).mono ?_
      rintro e w2 ⟨rfl, rfl⟩
      rw [h2.out]
      go_wp2
      go_ret
      exact ⟨rfl, b1⟩
    | true =>
      have hn1 : 1 ≤ next ∧ next ≤ MM := by
        unfold numP at h2
        simpa using h2
      have hw : IntKind.i64.wrap (next - 1) = next - 1 := by rw [IntKind.wrap_i64]; unfold MM at hn1; omega
      cases h3 : riseB 0 (next - 1) (ks.map KV.num) with
      | false =>
        show Calls Try.prog 14 _ w fun e w' => e = .returned (.bool false) ∧ _
        replace h1 := hid h1
        replace h2 := hid h2
        replace h3 := hid h3
        have hk2 := h.below b1
        go_enter Try.func14, Try.ntmps14
        go_wp2_with fail
        refine (isnum_any id _).mono ?_
        rintro e w2 ⟨rfl, rfl⟩
        rw [h1.out]
        go_wp2_with fail
        refine (isnum_any next _).mono ?_
        rintro e w2 ⟨rfl, rfl⟩
        rw [h2.out]
        go_wp2_with fail
        refine (rise_ww a n c lo 0 (next - 1) ks _ hl.out hk2 (by omega)).mono ?_
        rintro e w3 ⟨rfl, hb3⟩
        rw [h3.out]
        replace hk2 := hid hk2
        go_wp2
        go_ret
        exact ⟨rfl, bnext b1 hb3⟩
      | true =>
        have hks : ∀ k ∈ ks, 0 < k.num ∧ k.num ≤ MM := fun k hk => by
          have hk' : k.num ∈ ks.map KV.num := List.mem_map.2 ⟨k, hk, rfl⟩
          have key : ∀ (lo hi : Int) (l : List Int), riseB lo hi l = true → ∀ x ∈ l, lo < x ∧ x ≤ hi := by
            intro lo hi l
            induction l generalizing lo with
            | nil => intro _ x hx; simp at hx
            | cons y r ih =>
              intro hr x hx
              simp only [riseB, Bool.and_eq_true, decide_eq_true_eq] at hr
              rcases List.mem_cons.1 hx with rfl | hx
              · exact hr.1
              · have := ih y hr.2 x hx
                omega
          have := key _ _ _ h3 _ hk'
          omega
        have hackr : -1 ≤ ackP next (ks.map KV.num) ∧ ackP next (ks.map KV.num) ≤ 4611686018427387904 := by
          unfold MM at hn1 hks
          cases ks with
          | nil => simp only [List.map_nil, ackP]; omega
          | cons k r => have := hks k (by simp); simp only [List.map_cons, ackP]; omega
        obtain ⟨A, hA⟩ : ∃ A, A = ackP next (ks.map KV.num) := ⟨_, rfl⟩
        rw [← hA] at hackr ⊢
        have hk2 := h.below b1
        replace h1 := hid h1
        replace h2 := hid h2
        replace h3 := hid h3
        replace hA := hid hA
        replace hks := hid hks
        have hn1' : 1 ≤ next ∧ next ≤ 4611686018427387904 := hn1
        show Calls Try.prog 14 _ w fun e w' => e = .returned (.bool ((acked == A) && decide (next - 1 - acked ≤ 8))) ∧ _
        by_cases e1 : acked = A
        · subst e1
          have hw2 : IntKind.i64.wrap (next - 1 - acked) = next - 1 - acked := by rw [IntKind.wrap_i64]; omega
          have d1 : (acked == acked) = true := by simp
          replace P1 := hid P1
          replace hn1 := hid hn1
          go_enter Try.func14, Try.ntmps14
          go_wp2_with fail
          refine (isnum_any id _).mono ?_
          rintro e w2 ⟨rfl, rfl⟩
          rw [h1.out]
          go_wp2_with fail
          refine (isnum_any next _).mono ?_
          rintro e w2 ⟨rfl, rfl⟩
          rw [h2.out]
          go_wp2_with fail
          refine (rise_ww a n c lo 0 (next - 1) ks _ hl.out hk2 (by omega)).mono ?_
          rintro e w3 ⟨rfl, hb3⟩
          rw [h3.out]
          have P3 := P1.out.below hb3
          have B3 := bnext b1 hb3
          have bd := drew_below w3
          have P4 := P3.below bd
          have c0 := P4.cell0
          have c1 := P4.cell1
          have c2 := P4.cell2
          have c3 := P4.cell3
          have hans := ansup_any 52 rfl id next acked a n c lo ks w3.drew hl.out ((hk2.below hb3).below bd) hn1.out hks.out hnn
          rw [← hA.out] at hans
          replace hk2 := hid hk2
          replace P3 := hid P3
          replace P4 := hid P4
          replace hans := hid hans
          go_wp2_with fail
          go_region_held (fun w' : World => w'.cell? ⟨w.heap.size, 0, none⟩ = some (.int .i64 id) ∧ w'.cell? ⟨w.heap.size, 1, none⟩ = some (.int .i64 next) ∧ w'.cell? ⟨w.heap.size, 2, none⟩ = some (.int .i64 acked) ∧ w'.cell? ⟨w.heap.size, 3, none⟩ = some (.slice a n c)) (first | exact ⟨k0, k1, k2, k3⟩ | exact ⟨c0, c1, c2, c3⟩)
            (first | (go_at_call 52; refine hans.out.mono ?_; rintro e w7 ⟨rfl, hb7⟩; have P7 := P4.out.below hb7; have k0 := P7.cell0; have k1 := P7.cell1; have k2 := P7.cell2; have k3 := P7.cell3; replace P7 := hid P7))
          go_wp2
          go_ret
          exact ⟨ret_bool (by simp), bnext B3 (bnext bd hb7)⟩
        · have d1 : (acked == A) = false := by simp [e1]
          rw [d1]
          show Calls Try.prog 14 _ w fun e w' => e = .returned (.bool false) ∧ _
          replace e1 := hid e1
          replace P1 := hid P1
          replace hn1 := hid hn1
          go_enter Try.func14, Try.ntmps14
          go_wp2_with fail
          refine (isnum_any id _).mono ?_
          rintro e w2 ⟨rfl, rfl⟩
          rw [h1.out]
          go_wp2_with fail
          refine (isnum_any next _).mono ?_
          rintro e w2 ⟨rfl, rfl⟩
          rw [h2.out]
          go_wp2_with fail
          refine (rise_ww a n c lo 0 (next - 1) ks _ hl.out hk2 (by omega)).mono ?_
          rintro e w3 ⟨rfl, hb3⟩
          rw [h3.out]
          have P3 := P1.out.below hb3
          have B3 := bnext b1 hb3
          have hans := fun W hb => ansup_any 52 rfl id next acked a n c lo ks W hl.out ((hk2.below hb3).below hb) hn1.out hks.out hnn
          rw [← hA.out] at hans
          replace hk2 := hid hk2
          replace P3 := hid P3
          replace hans := hid hans
          go_wp2_with fail
          refine wp_region_drawn (Rel := fun w w' => Below w.heap.size w w') (Pr := fun q v _ => v = ([.pointer (some ⟨w.heap.size, 2, none⟩), .int .i64 acked, .agg #[.int .i64 id, .int .i64 next, .int .i64 acked, .slice a n c], .int .i64 A, .bool false, .bool false, undef, undef, undef, undef, undef, undef, undef, .bool false, .bool false]).getD q undef) (by kernel_rfl) (by kernel_rfl) (drew_below _) bel_tr (fun _ _ _ _ h _ => h) ?_ ?_
          · refine ⟨?_, ?_, ?_, ?_, ?_, ?_, ?_, ?_, ?_, ?_, ?_, ?_, ?_, ?_, ?_, trivial⟩
            · exact fun a w hR hd hk K hK => yes (want_n rfl) (wp_fld41_2 1 _ (get_keep (hk 1 (no_dst (by kernel_rfl))) rfl) (hK _ w rfl (Below.refl _ _)))
            · exact fun a w hR hd hk K hK => yes (want_n rfl) (wp_ld3 22 _ acked (hd 0 _ 22 rfl rfl rfl) (P3.out.below hR).cell2 (hK _ w rfl (Below.refl _ _)))
            · exact fun a w hR hd hk K hK => yes (want_n rfl) (wp_load_row _ _ rfl _ (get_keep (hk 1 (no_dst (by kernel_rfl))) rfl) 41 _ _ _ (P3.out.below hR) Try.underlying41 rfl info41 (hK _ w rfl (Below.refl _ _)))
            · exact fun a w hR hd hk K hK => yes (want_n rfl) (wp_callv 52 _ _ rfl _ Try.func52 rfl rfl _ (args1 (hd 2 _ 24 rfl rfl rfl)) (hans.out w hR) (by rintro e w' ⟨rfl, hb⟩; exact ⟨_, rfl, hK _ w' rfl hb⟩))
            · exact fun a w hR hd hk K hK => yes (want_n rfl) (wp_bin _ _ _ _ _ rfl _ _ _ (hd 1 _ 23 rfl rfl rfl) (hd 3 _ 25 rfl rfl rfl) rfl (eql_f d1 _) (hK _ w rfl (Below.refl _ _)))
            · exact fun a w hR hd hk K hK => yes (want_n rfl) (wp_mv _ rfl _ (hd 4 _ 26 rfl rfl rfl) (hK _ w rfl (Below.refl _ _)))
            · exact fun a w hR hd hk K hK => nope (want_f rfl rfl (hd 5 _ 27 rfl rfl rfl) (by decide)) (hK _ w rfl (Below.refl _ _))
            · exact fun a w hR hd hk K hK => nope (want_f rfl rfl (hd 5 _ 27 rfl rfl rfl) (by decide)) (hK _ w rfl (Below.refl _ _))
            · exact fun a w hR hd hk K hK => nope (want_f rfl rfl (hd 5 _ 27 rfl rfl rfl) (by decide)) (hK _ w rfl (Below.refl _ _))
            · exact fun a w hR hd hk K hK => nope (want_f rfl rfl (hd 5 _ 27 rfl rfl rfl) (by decide)) (hK _ w rfl (Below.refl _ _))
            · exact fun a w hR hd hk K hK => nope (want_f rfl rfl (hd 5 _ 27 rfl rfl rfl) (by decide)) (hK _ w rfl (Below.refl _ _))
            · exact fun a w hR hd hk K hK => nope (want_f rfl rfl (hd 5 _ 27 rfl rfl rfl) (by decide)) (hK _ w rfl (Below.refl _ _))
            · exact fun a w hR hd hk K hK => nope (want_f rfl rfl (hd 5 _ 27 rfl rfl rfl) (by decide)) (hK _ w rfl (Below.refl _ _))
            · exact fun a w hR hd hk K hK => yes (want_n rfl) (wp_pick _ _ _ rfl false _ (hd 5 _ 27 rfl rfl rfl) rfl (hK _ w rfl (Below.refl _ _)))
            · exact fun a w hR hd hk K hK => yes (want_n rfl) (wp_as _ rfl _ (hd 13 _ 35 rfl rfl rfl) (hK _ w rfl (Below.refl _ _)))
          · intro a w12 hdf hsz hkp hval hRw
            obtain ⟨f, hf⟩ : ∃ f, f = fun d => a.tmps.getD d undef := ⟨_, rfl⟩
            have h2' : f 2 = .bool false := by rw [hf]; exact hval 14 _ 2 rfl rfl
            have hfa := act_filled hdf hsz hkp
            rw [← hf] at hfa
            rw [hfa]
            clear hdf hsz hkp hval hfa hf
            clear a
            simp only [fillAll, List.set_cons_zero, List.set_cons_succ, h2']
            go_wp2
            go_ret
            exact ⟨rfl, bnext B3 hRw⟩

end Go.Proofs.Ythjggjjocfbjcaa
