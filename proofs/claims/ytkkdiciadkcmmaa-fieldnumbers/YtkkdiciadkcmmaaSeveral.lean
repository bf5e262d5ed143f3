/- What several answers: numbers, texts, taken one behind the other till something is wrong. -/
import Derived.Test.YtkkdiciadkcmmaaTaker3
namespace Go.Proofs.Ytkkdiciadkcmmaa
open Go.RowKit

theorem owns_block_ne {w : World} {base e size n k : Nat} {v : Value} {xs : List Value} {d : Array Value} {u : TypeId} {m : Nat × Nat} (h : w.ownsRow base e size v n xs) (hk : w.heap[k]? = some (.cells d u m)) (hne : e ≠ u) : v.ownBlock ≠ some k := by
  intro hv
  rcases h.2 with ⟨rfl, _⟩ | ⟨g, cap, cur, rfl, _, hg, _⟩
  · cases hv
  · simp [Value.ownBlock] at hv
    subst hv
    rw [hg] at hk
    simp at hk
    exact hne hk.2.1

theorem Tk.grown {w0 w w' : World} {a : Option Addr} {len cap gb ga gw gn : Nat} {s : St} {base e size n : Nat} {v : Value} {xs : List Value} (h : Tk w0 w a len cap gb ga gw gn s) (ho : w.ownsRow base e size v n xs) (hg : w.grownBy w' v.ownBlock) (hB : w0.heap.size ≤ base) (h1 : e ≠ 22) (h2 : e ≠ 3) (h3 : e ≠ 4) (h4 : e ≠ 77) : Tk w0 w' a len cap gb ga gw gn s :=
  h.kp (Kp.grown hg) (owns_block_ne ho h.b h1) (owns_block_ne ho h.p h2) (owns_block_ne ho h.r h3) (owns_block_ne ho h.n h4) (fun k hk => Nat.le_trans hB (World.ownsRow.lt ho k hk).1)

theorem Tk.apart {w0 w : World} {a : Option Addr} {len cap gb ga gw gn : Nat} {s : St} {base e size n : Nat} {v : Value} {xs : List Value} (h : Tk w0 w a len cap gb ga gw gn s) (ho : w.ownsRow base e size v n xs) (h2 : e ≠ 3) (h3 : e ≠ 4) : ∀ k, v.ownBlock = some k → ¬ Two ga gw k := by
  rintro k hk (rfl | rfl)
  · exact owns_block_ne ho h.p h2 hk
  · exact owns_block_ne ho h.r h3 hk

/-- The closures in a block. -/
def TB (w : World) (g gb ga gw gn : Nat) : Prop := w.heap[g]? = some (.cells #[.func (.func 49) #[] #[.pointer (some ⟨gb, 0, none⟩), .pointer (some ⟨ga, 0, none⟩), .pointer (some ⟨gn, 0, none⟩)],
  .func (.func 51) #[] #[.pointer (some ⟨gb, 0, none⟩), .pointer (some ⟨ga, 0, none⟩), .pointer (some ⟨gn, 0, none⟩)],
  .func (.func 53) #[] #[.pointer (some ⟨gb, 0, none⟩), .pointer (some ⟨ga, 0, none⟩), .pointer (some ⟨gn, 0, none⟩)],
  .func (.func 55) #[] #[.pointer (some ⟨gb, 0, none⟩), .pointer (some ⟨ga, 0, none⟩), .pointer (some ⟨gn, 0, none⟩)],
  .func (.func 57) #[] #[.pointer (some ⟨gw, 0, none⟩)],
  .func (.func 58) #[] #[.pointer (some ⟨gw, 0, none⟩), .pointer (some ⟨ga, 0, none⟩), .pointer (some ⟨gb, 0, none⟩)]] 59 (0, 0))

structure TB6 (w : World) (g gb ga gw gn : Nat) : Prop where
  c0 : w.cell? ⟨g, 0, none⟩ = some (.func (.func 49) #[] #[.pointer (some ⟨gb, 0, none⟩), .pointer (some ⟨ga, 0, none⟩), .pointer (some ⟨gn, 0, none⟩)])
  c1 : w.cell? ⟨g, 1, none⟩ = some (.func (.func 51) #[] #[.pointer (some ⟨gb, 0, none⟩), .pointer (some ⟨ga, 0, none⟩), .pointer (some ⟨gn, 0, none⟩)])
  c2 : w.cell? ⟨g, 2, none⟩ = some (.func (.func 53) #[] #[.pointer (some ⟨gb, 0, none⟩), .pointer (some ⟨ga, 0, none⟩), .pointer (some ⟨gn, 0, none⟩)])
  c3 : w.cell? ⟨g, 3, none⟩ = some (.func (.func 55) #[] #[.pointer (some ⟨gb, 0, none⟩), .pointer (some ⟨ga, 0, none⟩), .pointer (some ⟨gn, 0, none⟩)])
  c4 : w.cell? ⟨g, 4, none⟩ = some (.func (.func 57) #[] #[.pointer (some ⟨gw, 0, none⟩)])
  c5 : w.cell? ⟨g, 5, none⟩ = some (.func (.func 58) #[] #[.pointer (some ⟨gw, 0, none⟩), .pointer (some ⟨ga, 0, none⟩), .pointer (some ⟨gb, 0, none⟩)])

theorem TB.six {w : World} {g gb ga gw gn : Nat} (h : TB w g gb ga gw gn) : TB6 w g gb ga gw gn := by
  unfold TB at h
  constructor <;> simp [World.cell?, h]

theorem TB.kp {S : Nat → Prop} {w w' : World} {g gb ga gw gn : Nat} (h : TB w g gb ga gw gn) (hk : Kp S w w') (hn : ¬ S g) : TB w' g gb ga gw gn := one_kp h hk hn
theorem TB.below {w w' : World} {g gb ga gw gn : Nat} (h : TB w g gb ga gw gn) (hb : Below w.heap.size w w') : TB w' g gb ga gw gn := h.kp (S := fun _ => False) (Kp.of_below hb) (fun h => h)

/-- The closures turn it not. -/
theorem TB.two {w0 w w' : World} {a : Option Addr} {len cap g gb ga gw gn : Nat} {s : St} (h : TB w g gb ga gw gn) (ht : Tk w0 w a len cap gb ga gw gn s) (hk : Kp (Two ga gw) w w') : TB w' g gb ga gw gn := by
  refine h.kp hk ?_
  rintro (e | e)
  · exact block_ne h ht.p (by decide) e
  · exact block_ne h ht.r (by decide) e

theorem TB.grown {w w' : World} {g gb ga gw gn base e size n : Nat} {v : Value} {xs : List Value} (h : TB w g gb ga gw gn) (ho : w.ownsRow base e size v n xs) (hg : w.grownBy w' v.ownBlock) (hne : e ≠ 59) : TB w' g gb ga gw gn := h.kp (Kp.grown hg) (owns_block_ne ho h hne)

set_option maxRecDepth 100000 in
set_option maxHeartbeats 4000000 in
theorem nums_any {w0 : World} (a : Option Addr) (len cap gb ga gw gn n : Nat) (l : List UInt8) (s : St) (w : World) (hl : l.length = len) (hlen : len ≤ 100000) (hat : At w0 a l) (h : Tk w0 w a len cap gb ga gw gn s) (hn : n ≤ 65535) :
    Calls Try.prog 59 #[tkVal gb ga gw gn, .int .i64 (n : Int), .func (.func 53) #[] #[.pointer (some ⟨gb, 0, none⟩), .pointer (some ⟨ga, 0, none⟩), .pointer (some ⟨gn, 0, none⟩)]] w fun e w' => ∃ a' c', e = .returned (.slice a' (many (tkI l) n s).1.length c') ∧ Nums w' w.heap.size (.slice a' (many (tkI l) n s).1.length c') (many (tkI l) n s).1 ∧ Tk w0 w' a len cap gb ga gw gn (many (tkI l) n s).2 ∧ Kp (Two ga gw) w w' := by
  have hB : w0.heap.size ≤ w.heap.size := h.bel.size
  unfold tkVal
  go_enter Try.func59, Try.ntmps59
  go_wp2
  go_loopw [7, 9] (fun v i wr => ∃ j : Nat, j ≤ n ∧ i = .int .i64 j ∧ Nums wr w.heap.size v (many (tkI l) j s).1 ∧ Tk w0 wr a len cap gb ga gw gn (many (tkI l) j s).2 ∧ Kp (Two ga gw) w wr ∧ TB wr w.heap.size gb ga gw gn) (fun _ i _ => n - (intOf i).toNat)
  case atStart => exact ⟨0, Nat.zero_le _, rfl, Nums.nil _ _, h.below (below_lit w _), Kp.of_below (below_lit w _), heap_alloc_new w _⟩
  case round =>
    obtain ⟨j, hj, rfl, ho, ht, hk, htb⟩ := hrel
    obtain ⟨av, cv, rfl, _⟩ := owns_form ho
    by_cases hlt : j < n
    · obtain ⟨c0, c1, c2, c3, c4, c5⟩ := htb.six
      have hml := many_len (tkI l) j s
      have hz := hk.size
      cases hw : (many (tkI l) j s).2.2 with
      | true =>
        have hst : many (tkI l) n s = many (tkI l) j s := by
          have := many_stop hw (n - j); rwa [show j + (n - j) = n by omega] at this
        have hcall := whole_any a len cap gb ga gw gn _ _ ht
        rw [hw] at hcall
        replace hst := hid hst
        replace hw := hid hw
        generalize many (tkI l) j s = M at *
        go_wp2_with fail
        refine hcall.mono ?_
        rintro e w2 ⟨rfl, rfl⟩
        go_wp2
        go_ret
        rw [hst.out]
        exact ⟨_, _, rfl, ho, ht, hk⟩
      | false =>
        have hgo := many_go hw
        have hcall := whole_any a len cap gb ga gw gn _ _ ht
        rw [hw] at hcall
        have hcall2 := num_any a len cap gb ga gw gn l _ _ hl hlen hat ht
        replace hgo := hid hgo
        replace hw := hid hw
        generalize many (tkI l) j s = M at *
        generalize hR : tkI l M.2 = R at *
        replace hR := hid hR
        go_wp2_with fail
        refine hcall.mono ?_
        rintro e w2 ⟨rfl, rfl⟩
        go_wp2_with fail
        refine hcall2.mono ?_
        rintro e w3 ⟨rfl, ht3, hk3⟩
        have ho3 : Nums w3 w.heap.size _ _ := owns_kp ho hk3 (ht.apart ho (by decide) (by decide))
        have htb3 := htb.two ht hk3
        have hbl := below_lit w3 (.cells #[.int .i64 R.1] 2)
        have ho4 : Nums _ w.heap.size _ _ := owns_below ho3 hbl
        have ht4 := ht3.below hbl
        have htb4 := htb3.below hbl
        have hk4 := (hk.trans hk3).then hbl
        have hz4 := hk4.size
        have hat4 : NAt _ (some ⟨w3.heap.size, 0, none⟩) [R.1] := cat_lit w3 2 [.int .i64 R.1] _ rfl
        go_wp2_with (at_builtin; refine wpList_nums _ rfl (.tmp 15) (.tmp 18) rfl w.heap.size _ M.1 [R.1] rfl ho4 (some ⟨w3.heap.size, 0, none⟩) 1 1 rfl rfl hat4 (by omega) hz4 ?_; intro v5 w5 ho5 hg5 _)
        have ht5 := ht4.grown ho4 hg5 hB (by decide) (by decide) (by decide) (by decide)
        have htb5 := htb4.grown ho4 hg5 (by decide)
        have hk5 := hk4.next (Kp.grown hg5) (fun i hi e => by have := (World.ownsRow.lt ho4 i e).1; omega)
        go_wp2
        go_roundw
        case rel => exact ⟨j + 1, by omega, by go_num, by rw [hgo.out]; exact ho5, by rw [hgo.out]; exact ht5, hk5, htb5⟩
        case measure => simp [intOf]; omega
    · obtain rfl : j = n := by omega
      generalize hM : many (tkI l) j s = M at *
      replace hM := hid hM
      go_wp2
      go_ret
      rw [hM.out]
      exact ⟨_, _, rfl, ho, ht, hk⟩

set_option maxRecDepth 100000 in
set_option maxHeartbeats 4000000 in
theorem txts_any {w0 : World} (a : Option Addr) (len cap gb ga gw gn n : Nat) (l : List UInt8) (s : St) (w : World) (hl : l.length = len) (hlen : len ≤ 100000) (hcap : len ≤ cap) (hat : At w0 a l) (h : Tk w0 w a len cap gb ga gw gn s) (hn : n ≤ 65535) :
    Calls Try.prog 60 #[tkVal gb ga gw gn, .int .i64 (n : Int), .func (.func 55) #[] #[.pointer (some ⟨gb, 0, none⟩), .pointer (some ⟨ga, 0, none⟩), .pointer (some ⟨gn, 0, none⟩)]] w fun e w' => ∃ a' c', e = .returned (.slice a' (many (tkT l) n s).1.length c') ∧ Txts w' w.heap.size (.slice a' (many (tkT l) n s).1.length c') (many (tkT l) n s).1 ∧ Tk w0 w' a len cap gb ga gw gn (many (tkT l) n s).2 ∧ Kp (Two ga gw) w w' := by
  have hB : w0.heap.size ≤ w.heap.size := h.bel.size
  unfold tkVal
  go_enter Try.func60, Try.ntmps60
  go_wp2
  go_loopw [7, 9] (fun v i wr => ∃ j : Nat, j ≤ n ∧ i = .int .i64 j ∧ Txts wr w.heap.size v (many (tkT l) j s).1 ∧ Tk w0 wr a len cap gb ga gw gn (many (tkT l) j s).2 ∧ Kp (Two ga gw) w wr ∧ TB wr w.heap.size gb ga gw gn) (fun _ i _ => n - (intOf i).toNat)
  case atStart => exact ⟨0, Nat.zero_le _, rfl, Txts.nil _ _, h.below (below_lit w _), Kp.of_below (below_lit w _), heap_alloc_new w _⟩
  case round =>
    obtain ⟨j, hj, rfl, ho, ht, hk, htb⟩ := hrel
    obtain ⟨av, cv, rfl, _⟩ := owns_form ho
    by_cases hlt : j < n
    · obtain ⟨c0, c1, c2, c3, c4, c5⟩ := htb.six
      have hml := many_len (tkT l) j s
      have hz := hk.size
      cases hw : (many (tkT l) j s).2.2 with
      | true =>
        have hst : many (tkT l) n s = many (tkT l) j s := by
          have := many_stop hw (n - j); rwa [show j + (n - j) = n by omega] at this
        have hcall := whole_any a len cap gb ga gw gn _ _ ht
        rw [hw] at hcall
        replace hst := hid hst
        replace hw := hid hw
        generalize many (tkT l) j s = M at *
        go_wp2_with fail
        refine hcall.mono ?_
        rintro e w2 ⟨rfl, rfl⟩
        go_wp2
        go_ret
        rw [hst.out]
        exact ⟨_, _, rfl, ho, ht, hk⟩
      | false =>
        have hgo := many_go hw
        have hcall := whole_any a len cap gb ga gw gn _ _ ht
        rw [hw] at hcall
        have hcall2 := txt_any a len cap gb ga gw gn l _ _ hl hlen hcap hat ht
        replace hgo := hid hgo
        replace hw := hid hw
        generalize many (tkT l) j s = M at *
        generalize hR : tkT l M.2 = R at *
        replace hR := hid hR
        go_wp2_with fail
        refine hcall.mono ?_
        rintro e w2 ⟨rfl, rfl⟩
        go_wp2_with fail
        refine hcall2.mono ?_
        rintro e w3 ⟨rfl, ht3, hk3⟩
        have ho3 : Txts w3 w.heap.size _ _ := owns_kp ho hk3 (ht.apart ho (by decide) (by decide))
        have htb3 := htb.two ht hk3
        have hbl := below_lit w3 (.cells #[.string R.1] 9)
        have ho4 : Txts _ w.heap.size _ _ := owns_below ho3 hbl
        have ht4 := ht3.below hbl
        have htb4 := htb3.below hbl
        have hk4 := (hk.trans hk3).then hbl
        have hz4 := hk4.size
        have hat4 : TAt _ (some ⟨w3.heap.size, 0, none⟩) [R.1] := cat_lit w3 9 [.string R.1] _ rfl
        go_wp2_with (at_builtin; refine wpList_txts _ rfl (.tmp 15) (.tmp 18) rfl w.heap.size _ M.1 [R.1] rfl ho4 (some ⟨w3.heap.size, 0, none⟩) 1 1 rfl rfl hat4 (by omega) hz4 ?_; intro v5 w5 ho5 hg5 _)
        have ht5 := ht4.grown ho4 hg5 hB (by decide) (by decide) (by decide) (by decide)
        have htb5 := htb4.grown ho4 hg5 (by decide)
        have hk5 := hk4.next (Kp.grown hg5) (fun i hi e => by have := (World.ownsRow.lt ho4 i e).1; omega)
        go_wp2
        go_roundw
        case rel => exact ⟨j + 1, by omega, by go_num, by rw [hgo.out]; exact ho5, by rw [hgo.out]; exact ht5, hk5, htb5⟩
        case measure => simp [intOf]; omega
    · obtain rfl : j = n := by omega
      generalize hM : many (tkT l) j s = M at *
      replace hM := hid hM
      go_wp2
      go_ret
      rw [hM.out]
      exact ⟨_, _, rfl, ho, ht, hk⟩

end Go.Proofs.Ytkkdiciadkcmmaa
