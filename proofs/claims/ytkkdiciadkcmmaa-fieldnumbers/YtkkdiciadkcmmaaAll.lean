/- What the closure of All answers; what several answers of fields. -/
import Derived.Test.YtkkdiciadkcmmaaAllBase
namespace Go.Proofs.Ytkkdiciadkcmmaa
open Go.RowKit

set_option maxRecDepth 100000 in
set_option maxHeartbeats 1000000 in
theorem all1_any {w0 : World} (a : Option Addr) (len cap gb ga gw gn gT : Nat) (l : List UInt8) (s : St) (w : World) (hl : l.length = len) (hlen : len ≤ 100000) (hcap : len ≤ cap) (hat : At w0 a l) (h : Tk w0 w a len cap gb ga gw gn s) (hT : TB w gT gb ga gw gn) :
    Calls Try.prog 33 #[.pointer (some ⟨gT, 0, none⟩)] w fun e w' => ∃ it : It, e = .returned it.val ∧ it.fd = (tkOne l s).1 ∧ ItOwn w' w.heap.size it ∧ Tk w0 w' a len cap gb ga gw gn (tkOne l s).2 ∧ Kp (Two ga gw) w w' := by
  have hlt : gT < w.heap.size := (Array.getElem?_eq_some_iff.1 hT).1
  have hlow := h.bel.size
  obtain ⟨t0, t1, t2, t3, t4, t5⟩ := hT.six
  have hcall := fun (v : World) (hv : Tk w0 v a len cap gb ga gw gn s) => one_any a len cap gb ga gw gn l s v hl hlen hcap hat hv
  unfold tkVal at hcall
  generalize tkOne l s = R at *
  replace hcall := hid hcall
  go_enter Try.func33, Try.ntmps33
  go_wp2_with fail
  refine (hcall.out _ (h.below (below_lit w _))).mono ?_
  rintro e w1 ⟨it, rfl, hit, hio, ht1, hk1⟩
  replace hit := hid hit
  obtain ⟨hr1, hk1', hio1⟩ := begin_all1 h hk1 hio
  obtain ⟨r0, r1, r2, r3, r4, r5⟩ := hr1.six
  have s0 := hr1.free 0
  have s1 := hr1.free 1
  have s2 := hr1.free 2
  have s3 := hr1.free 3
  have s4 := hr1.free 4
  have s5 := hr1.free 5
  unfold It.val
  have hfin := hr1.all (.int .u8 (it.fd.tag.toNat : Int)) (.int .u8 (it.fd.kind.toNat : Int)) (.int .i64 it.fd.n) (.string it.fd.text) (.slice it.na it.fd.ns.length it.nc) (.slice it.ta it.fd.texts.length it.tc)
  have hk2 := six_kp w1 w.heap.size (.int .u8 (it.fd.tag.toNat : Int)) (.int .u8 (it.fd.kind.toNat : Int)) (.int .i64 it.fd.n) (.string it.fd.text) (.slice it.na it.fd.ns.length it.nc) (.slice it.ta it.fd.texts.length it.tc)
  have hio2 := ItOwn.block hio1 hk2 (fun k e => e) hr1
  have ht2 := ht1.kp hk2 (fun e => block_ne ht1.b hr1 (by decide) e) (fun e => block_ne ht1.p hr1 (by decide) e) (fun e => block_ne ht1.r hr1 (by decide) e) (fun e => block_ne ht1.n hr1 (by decide) e) (fun k e => by omega)
  have hk3 := hk1'.next hk2 (fun i hi e => by omega)
  go_wp2
  (try simp only [Exit.inBlock, Exit.then]); refine bodyPost_ret (results_field rfl _ _ w.heap.size _ _ _ _ _ _ rfl hfin) rfl ?_
  exact ⟨it, rfl, hit.out, hio2, ht2, hk3⟩

set_option maxRecDepth 100000 in
set_option maxHeartbeats 4000000 in
theorem flds_any {w0 : World} (a : Option Addr) (len cap gb ga gw gn gT n : Nat) (l : List UInt8) (s : St) (w : World) (hl : l.length = len) (hlen : len ≤ 100000) (hcap : len ≤ cap) (hat : At w0 a l) (h : Tk w0 w a len cap gb ga gw gn s) (hT : TB w gT gb ga gw gn) (hn : n ≤ 65535) :
    Calls Try.prog 32 #[tkVal gb ga gw gn, .int .i64 (n : Int), .func (.func 33) #[] #[.pointer (some ⟨gT, 0, none⟩)]] w fun e w' => ∃ a' c' its, e = .returned (.slice a' its.length c') ∧ fds its = (many (tkOne l) n s).1 ∧ Flds w' w.heap.size (.slice a' its.length c') its ∧ (∀ i ∈ its, ItOwn w' w.heap.size i) ∧ Tk w0 w' a len cap gb ga gw gn (many (tkOne l) n s).2 ∧ TB w' gT gb ga gw gn ∧ Kp (Two ga gw) w w' := by
  have hB : w0.heap.size ≤ w.heap.size := h.bel.size
  unfold tkVal
  go_enter Try.func32, Try.ntmps32
  go_wp2
  go_loopw [7, 9] (fun v i wr => ∃ j : Nat, ∃ its : List It, j ≤ n ∧ i = .int .i64 j ∧ fds its = (many (tkOne l) j s).1 ∧ Flds wr w.heap.size v its ∧ (∀ i ∈ its, ItOwn wr w.heap.size i) ∧ Tk w0 wr a len cap gb ga gw gn (many (tkOne l) j s).2 ∧ Kp (Two ga gw) w wr ∧ TB wr w.heap.size gb ga gw gn ∧ TB wr gT gb ga gw gn) (fun _ i _ => n - (intOf i).toNat)
  case atStart => exact ⟨0, [], Nat.zero_le _, rfl, rfl, Flds.nil _ _, (fun i hi => absurd hi (by simp)), h.below (below_lit w _), Kp.of_below (below_lit w _), heap_alloc_new w _, hT.below (below_lit w _)⟩
  case round =>
    obtain ⟨j, its, hj, rfl, hfd, ho, hio, ht, hk, htb, htT⟩ := hrel
    obtain ⟨av, cv, rfl, _⟩ := owns_form ho
    by_cases hlt : j < n
    · obtain ⟨c0, c1, c2, c3, c4, c5⟩ := htb.six
      have hml : its.length ≤ j := by have := many_len (tkOne l) j s; rw [← hfd] at this; simpa [fds] using this
      have hz := hk.size
      cases hw : (many (tkOne l) j s).2.2 with
      | true =>
        have hst : many (tkOne l) n s = many (tkOne l) j s := by
          have := many_stop hw (n - j); rwa [show j + (n - j) = n by omega] at this
        have hcall := whole_any a len cap gb ga gw gn _ _ ht
        rw [hw] at hcall
        replace hst := hid hst
        replace hw := hid hw
        generalize many (tkOne l) j s = M at *
        replace hfd := hid hfd
        go_wp2_with fail
        refine hcall.mono ?_
        rintro e w2 ⟨rfl, rfl⟩
        go_wp2
        go_ret
        rw [hst.out]
        exact ⟨_, _, its, rfl, hfd.out, ho, hio, ht, htT, hk⟩
      | false =>
        have hgo := many_go hw
        have hcall := whole_any a len cap gb ga gw gn _ _ ht
        rw [hw] at hcall
        have hcall2 := all1_any a len cap gb ga gw gn gT l _ _ hl hlen hcap hat ht htT
        replace hgo := hid hgo
        replace hw := hid hw
        generalize many (tkOne l) j s = M at *
        generalize tkOne l M.2 = R at *
        replace hfd := hid hfd
        go_wp2_with fail
        refine hcall.mono ?_
        rintro e w2 ⟨rfl, rfl⟩
        go_wp2_with fail
        refine hcall2.mono ?_
        rintro e w3 ⟨it, rfl, hit, hi3, ht3, hk3⟩
        replace hit := hid hit
        unfold It.val
        have ho3 : Flds w3 w.heap.size _ _ := owns_kp ho hk3 (ht.apart ho (by decide) (by decide))
        have htb3 := htb.two ht hk3
        have htT3 := htT.two ht hk3
        have hio3 : ∀ i ∈ its, ItOwn w3 w.heap.size i := fun i hi => (hio i hi).two ht hk3
        have hbl := below_lit w3 (.cells #[.int .u8 (it.fd.tag.toNat : Int), .int .u8 (it.fd.kind.toNat : Int), .int .i64 it.fd.n, .string it.fd.text, .slice it.na it.fd.ns.length it.nc, .slice it.ta it.fd.texts.length it.tc] 30)
        have ho4 : Flds _ w.heap.size _ _ := owns_below ho3 hbl
        have ht4 := ht3.below hbl
        have htb4 := htb3.below hbl
        have htT4 := htT3.below hbl
        have hi4 := (hi3.low hz).below hbl
        have hio4 : ∀ i ∈ its, ItOwn _ w.heap.size i := fun i hi => (hio3 i hi).below hbl
        have hk4 := (hk.trans hk3).then hbl
        have hz4 := hk4.size
        have hat4 : CAt _ (some ⟨w3.heap.size, 0, none⟩) it.cells := cat_lit w3 30 it.cells _ rfl
        go_wp2_with (at_builtin; refine wpList_fld _ rfl (.tmp 15) (.tmp 18) rfl w.heap.size _ its it rfl ho4 (some ⟨w3.heap.size, 0, none⟩) 1 rfl hat4 (by omega) hz4 ?_; intro v5 w5 ho5 hg5 _)
        have ht5 := ht4.grown ho4 hg5 hB (by decide) (by decide) (by decide) (by decide)
        have htb5 := htb4.grown ho4 hg5 (by decide)
        have htT5 := htT4.grown ho4 hg5 (by decide)
        have hk5 := hk4.next (Kp.grown hg5) (fun i hi e => by have := (World.ownsRow.lt ho4 i e).1; omega)
        have hio5 : ∀ i ∈ its ++ [it], ItOwn w5 w.heap.size i := fun i hi => by
          rcases List.mem_append.1 hi with h1 | h1
          · exact (hio4 i h1).grown ho4 hg5
          · rw [List.mem_singleton.1 h1]; exact hi4.grown ho4 hg5
        go_wp2
        go_roundw
        case rel => exact ⟨j + 1, its ++ [it], by omega, by go_num, by rw [hgo.out]; simp only [fds, List.map_append, List.map_cons, List.map_nil]; rw [show its.map It.fd = M.1 from hfd.out, hit.out], ho5, hio5, by rw [hgo.out]; exact ht5, hk5, htb5, htT5⟩
        case measure => simp [intOf]; omega
    · obtain rfl : j = n := by omega
      generalize hM : many (tkOne l) j s = M at *
      replace hM := hid hM
      replace hfd := hid hfd
      go_wp2
      go_ret
      rw [hM.out]
      exact ⟨_, _, its, rfl, hfd.out, ho, hio, ht, htT, hk⟩

end Go.Proofs.Ytkkdiciadkcmmaa
