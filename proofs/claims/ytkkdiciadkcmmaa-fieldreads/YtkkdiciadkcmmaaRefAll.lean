/- What the document's All answers: the fields whose bytes these are, or ErrField. -/
import Derived.Test.YtkkdiciadkcmmaaRefPut
import Derived.Test.YtkkdiciadkcmmaaRefOne4
import Derived.Test.YtkkdiciadkcmmaaApartWalk
import Derived.Test.YtkkdiciadkcmmaaAll2
namespace Go.Proofs.Ytkkdiciadkcmmaa
open Go.RowKit

theorem refone_any (a : Option Addr) (len cap p : Nat) (l : List UInt8) (w : World) (hl : l.length = len) (hlen : len ≤ 100000) (hp : p ≤ len) (hcap : len ≤ cap) (hat : At w a l) :
    Calls Try.prog 43 #[.slice a len cap, .int .i64 (p : Int)] w fun e w' => OnePost l p w w' e := by
  rcases Nat.lt_or_ge len (p + 2) with h | h
  · exact refone_cut a len cap p l w hl hlen hp hat h
  · obtain ⟨T, K, hT2, hK2, hT, hK⟩ := one_in (l := l) (p := p) (by omega)
    by_cases h1 : K < 1
    · exact refone_low a len cap p T K l w hl hlen hp hat hT2 hK2 hT hK h1
    · by_cases h4 : 4 < K
      · exact refone_high a len cap p T K l w hl hlen hp hat hT2 hK2 hT hK h4
      · have : K = 1 ∨ K = 2 ∨ K = 3 ∨ K = 4 := by omega
        rcases this with rfl | rfl | rfl | rfl
        · exact refone1 a len cap p T l w hl hlen hp hcap hat hT2 hT hK
        · exact refone2 a len cap p T l w hl hlen hp hcap hat hT2 hT hK
        · exact refone3 a len cap p T l w hl hlen hp hat hT2 hT hK
        · exact refone4 a len cap p T l w hl hlen hp hcap hat hT2 hT hK

theorem many_up {α : Type} (one : St → α × St) (s : St) (x : α) (k m : Nat) (h : k ≤ m) (hx : x ∈ (many one k s).1) : x ∈ (many one m s).1 := by
  induction m with
  | zero => obtain rfl : k = 0 := by omega
            exact hx
  | succ m ih =>
    rcases Nat.lt_or_ge m k with h1 | h1
    · obtain rfl : k = m + 1 := by omega
      exact hx
    · have := ih h1
      unfold many
      split
      · exact this
      · exact List.mem_append_left _ this

theorem tkOne_short (l : List UInt8) (s : St) : (tkOne l s).1.ns.length ≤ 65535 ∧ (tkOne l s).1.texts.length ≤ 65535 := by
  unfold tkOne
  simp only
  have key : ∀ (α : Type) (one : St → α × St) (t : St), (many one (tkN l 2 t).1 (tkN l 2 t).2).1.length ≤ 65535 := fun α one t => by
    have h1 := many_len one (tkN l 2 t).1 (tkN l 2 t).2
    have h2 := tkN_lt l 2 t
    omega
  repeat' split
  · exact ⟨by simp, by simp⟩
  · exact ⟨by simp, by simp⟩
  · exact ⟨key _ _ _, by simp⟩
  · exact ⟨by simp, key _ _ _⟩
  · exact ⟨by simp, by simp⟩

/-- What All has taken so far: j fields. -/
structure Got (l : List UInt8) (w wr : World) (j q : Nat) (v : Value) (its : List It) : Prop where
  many : many (tkOne l) j (1, false) = (fds its, (q, false))
  le : q ≤ l.length
  own : Flds wr w.heap.size v its
  its : ∀ i ∈ its, ItOwn wr w.heap.size i
  bel : Below w.heap.size w wr

theorem Got.len {l : List UInt8} {w wr : World} {j q : Nat} {v : Value} {its : List It} (h : Got l w wr j q v its) : its.length ≤ j := by
  have := many_len (tkOne l) j (1, false)
  rw [h.many] at this
  simpa [fds] using this

theorem Got.mem {l : List UInt8} {w wr : World} {j q : Nat} {v : Value} {its : List It} (h : Got l w wr j q v its) : ∀ i ∈ its, Fits i.fd ∧ Short i := fun i hi => by
  have : i.fd ∈ (Ytkkdiciadkcmmaa.many (tkOne l) j (1, false)).1 := by rw [h.many]; exact List.mem_map.2 ⟨i, hi, rfl⟩
  obtain ⟨s', e'⟩ := many_mem _ _ _ _ this
  have h2 := tkOne_short l s'
  rw [← e'] at h2
  exact ⟨by rw [e']; exact tkOne_fits l s', by unfold Short; omega⟩

/-- No field stands at q: nothing is read. -/
theorem Got.stop {l : List UInt8} {w wr : World} {j q N : Nat} {v : Value} {its : List It} (h : Got l w wr j q v its) (hN : tkN l 1 (0, false) = (N, (1, false))) (hj : j < N) (hno : ¬ Fine l q) : ∀ fs, Reads l fs → ¬ ∀ f ∈ fs, Fits f := by
  intro fs hr hf
  have e := reads_tkAll hr hf
  unfold tkAll at e
  rw [hN] at e
  dsimp only at e
  have hok := many_ok (one := tkOne l) (k := N) (s := (1, false)) (by rw [e])
  have hgo := many_go (one := tkOne l) (k := j) (s := (1, false)) (by rw [h.many])
  have h1 := hok.2 (j + 1) (by omega)
  rw [hgo, h.many] at h1
  dsimp only at h1
  have hm : (tkOne l (q, false)).1 ∈ fs := by
    have := many_up (tkOne l) (1, false) (tkOne l (q, false)).1 (j + 1) N (by omega) (by rw [hgo, h.many]; simp)
    rw [e] at this
    exact this
  obtain ⟨i, hi, he⟩ := List.getElem_of_mem hm
  have hg := (hr.1.2 i hi).1
  rw [he] at hg
  exact hno ⟨h1, hg.kinds⟩

theorem Got.next {l : List UInt8} {w wr w5 : World} {j q : Nat} {v v5 : Value} {its : List It} {it : It} (h : Got l w wr j q v its) (hf : Fine l q) (hfd : it.fd = (tkOne l (q, false)).1) (ho : Flds w5 w.heap.size v5 (its ++ [it])) (hi : ∀ i ∈ its ++ [it], ItOwn w5 w.heap.size i) (hb : Below w.heap.size w w5) : Got l w w5 (j + 1) (tkOne l (q, false)).2.1 v5 (its ++ [it]) := by
  refine ⟨?_, (tkOne_sane l (q, false) h.le).1, ho, hi, hb⟩
  have hgo := many_go (one := tkOne l) (k := j) (s := (1, false)) (by rw [h.many])
  rw [hgo, h.many]
  dsimp only
  rw [← hfd]
  simp only [fds, List.map_append, List.map_cons, List.map_nil]
  congr 1
  exact Prod.ext rfl hf.1

/-- All that were to be taken are there. -/
theorem Got.all {l : List UInt8} {w wr : World} {q N : Nat} {v : Value} {its : List It} (h : Got l w wr N q v its) (hN : tkN l 1 (0, false) = (N, (1, false))) : ∀ fs, Reads l fs → (∀ f ∈ fs, Fits f) → fs = fds its := by
  intro fs hr hf
  have e := reads_tkAll hr hf
  unfold tkAll at e
  rw [hN] at e
  dsimp only at e
  rw [h.many] at e
  simp only [Prod.mk.injEq] at e
  exact e.1.symm

theorem Got.fat {l : List UInt8} {w wr : World} {j q n c : Nat} {a : Option Addr} {its : List It} (h : Got l w wr j q (.slice a n c) its) : FAt wr a its := flds_at h.own h.its (fun i hi => (h.mem i hi).1)

set_option maxRecDepth 100000 in
set_option maxHeartbeats 4000000 in
theorem refall_any (a : Option Addr) (len cap : Nat) (l : List UInt8) (w : World) (hl : l.length = len) (hlen : len ≤ 100000) (hcap : len ≤ cap) (hat : At w a l) :
    Calls Try.prog 22 #[.slice a len cap] w fun e w' => AllPost w' l e ∧ Below w.heap.size w w' := by
  by_cases h0 : len = 0
  · have hno : ∀ fs, Reads l fs → ¬ ∀ f ∈ fs, Fits f := fun fs hr _ => by
      have h1 := congrArg List.length hr.2.1
      unfold bytesOf at h1
      simp at h1
      omega
    replace hno := hid hno
    subst h0
    replace hl := hid hl
    go_enter Try.func22, Try.ntmps22
    go_wp2
    go_ret2
    exact ⟨.inr ⟨rfl, hno.out⟩, Below.refl _ _⟩
  · have hpos : 0 < len := by omega
    obtain ⟨N, hN1, hN2, hN, hNl⟩ := rd_in (l := l) (p := 0) (n := 1) (by omega)
    clear hN1 hN2
    obtain ⟨b, o, rfl, hc⟩ := hat (by intro e; subst e; simp at hl; omega)
    have hc0 := hc 0 (by omega)
    have hNv : (l[0]'(by omega)).toNat = N := by
      have e : tkN l 1 (0, false) = (numOf ((l.drop 0).take 1), (0 + 1, false)) := by unfold tkN; rw [if_pos (by dsimp only; omega)]
      rw [hN] at e
      have e1 := congrArg Prod.fst e
      dsimp only at e1
      have e2 : (l.drop 0).take 1 = [l[0]'(by omega)] := by
        rcases l with _ | ⟨x, r⟩
        · simp at hl; omega
        · simp
      rw [e2, numOf_one] at e1
      exact e1.symm
    rw [hNv, Nat.add_zero] at hc0
    have hblt : b < w.heap.size := World.block_lt_of_cell? w _ hc0
    replace hNl : N < 256 := by simpa using hNl
    clear hc hNv h0
    rw [Nat.zero_add] at hN
    replace hN := hid hN
    have hne0 : ((len : Int) == 0) = false := by rw [beq_eq_false_iff_ne]; omega
    go_enter Try.func22, Try.ntmps22
    go_wp2
    go_loopw [4, 5, 6] (fun v u i wr => ∃ (j q : Nat) (its : List It), j ≤ N ∧ i = .int .i64 j ∧ u = .int .i64 q ∧ Got l w wr j q v its) (fun _ _ i _ => N - (intOf i).toNat)
    case atStart => exact ⟨0, 1, [], Nat.zero_le _, rfl, rfl, ⟨rfl, by omega, Flds.nil _ _, (fun i hi => absurd hi (by simp)), Below.refl _ _⟩⟩
    case round =>
      obtain ⟨j, q, its, hj, rfl, rfl, hG⟩ := hrel
      obtain ⟨av, cv, rfl, _⟩ := owns_form hG.own
      have hcr : wr.cell? ⟨b, o, none⟩ = some (.int .u8 (N : Int)) := (hG.bel.cell (p := ⟨b, o, none⟩) hblt).trans hc0
      have hql := hG.le
      have hil := hG.len
      by_cases hlt : j < N
      · have hcall := refone_any (some ⟨b, o, none⟩) len cap q l wr hl hlen (by omega) hcap (hat.below hG.bel)
        go_wp2_with fail
        refine hcall.mono ?_
        rintro e w1 ⟨it, en, ok, rfl, hb1, hiff, hok⟩
        cases ok with
        | false =>
          have hnf : ¬ Fine l q := fun f => by have := hiff.2 f; cases this
          have hno := hG.stop hN.out hlt hnf
          replace hno := hid hno
          replace hnf := hid hnf
          have hbf := bnext hG.bel hb1
          clear hok hiff
          unfold It.val
          go_wp2
          go_ret2
          exact ⟨.inr ⟨rfl, hno.out⟩, bnext hbf (below_lit _ _)⟩
        | true =>
          have hfine := hiff.1 rfl
          obtain ⟨hfd, rfl, hio⟩ := hok rfl
          clear hiff hok
          have ho1 : Flds w1 w.heap.size _ _ := owns_below hG.own hb1
          have hbl := below_lit w1 (.cells #[.int .u8 (it.fd.tag.toNat : Int), .int .u8 (it.fd.kind.toNat : Int), .int .i64 it.fd.n, .string it.fd.text, .slice it.na it.fd.ns.length it.nc, .slice it.ta it.fd.texts.length it.tc] 30)
          have hbl2 := below_lit (w1.alloc (.cells #[.int .u8 (it.fd.tag.toNat : Int), .int .u8 (it.fd.kind.toNat : Int), .int .i64 it.fd.n, .string it.fd.text, .slice it.na it.fd.ns.length it.nc, .slice it.ta it.fd.texts.length it.tc] 30)) (.cells #[.int .u8 (it.fd.tag.toNat : Int), .int .u8 (it.fd.kind.toNat : Int), .int .i64 it.fd.n, .string it.fd.text, .slice it.na it.fd.ns.length it.nc, .slice it.ta it.fd.texts.length it.tc] 30)
          have hb2 := bnext (bnext (bnext hG.bel hb1) hbl) hbl2
          have hz2 := hb2.size
          have ho2 : Flds _ w.heap.size _ _ := owns_below (owns_below ho1 hbl) hbl2
          have hio2 : ∀ i ∈ its ++ [it], ItOwn _ w.heap.size i := fun i hi => by
            rcases List.mem_append.1 hi with h1 | h1
            · exact (((hG.its i h1).below hb1).below hbl).below hbl2
            · rw [List.mem_singleton.1 h1]; exact (((hio.low hG.bel.size)).below hbl).below hbl2
          have hat2 : CAt _ (some ⟨(w1.alloc (.cells #[.int .u8 (it.fd.tag.toNat : Int), .int .u8 (it.fd.kind.toNat : Int), .int .i64 it.fd.n, .string it.fd.text, .slice it.na it.fd.ns.length it.nc, .slice it.ta it.fd.texts.length it.tc] 30)).heap.size, 0, none⟩) it.cells := cat_lit _ 30 it.cells _ rfl
          have hze : (w1.alloc (.cells #[.int .u8 (it.fd.tag.toNat : Int), .int .u8 (it.fd.kind.toNat : Int), .int .i64 it.fd.n, .string it.fd.text, .slice it.na it.fd.ns.length it.nc, .slice it.ta it.fd.texts.length it.tc] 30)).heap.size = w1.heap.size + 1 := by simp
          rw [hze] at hat2
          clear hze
          have hq2 : (tkOne l (q, false)).2.1 ≤ 100000 := by have := (tkOne_sane l (q, false) hql).1; omega
          replace hfd := hid hfd
          replace hG := hid hG
          replace hfine := hid hfine
          generalize hE : (tkOne l (q, false)).2.1 = E at *
          replace hE := hid hE
          unfold It.val
          go_wp2_with (at_builtin; refine wpList_fld _ rfl (.tmp 32) (.tmp 34) rfl w.heap.size _ its it rfl ho2 (some ⟨w1.heap.size + 1, 0, none⟩) 1 rfl hat2 (by omega) hz2 ?_; intro v5 w5 ho5 hg5 _)
          have hb5 : Below w.heap.size w w5 := hb2.trans ((Kp.grown hg5).below (fun k e => (World.ownsRow.lt ho2 k e).1) hz2)
          have hio5 : ∀ i ∈ its ++ [it], ItOwn w5 w.heap.size i := fun i hi => (hio2 i hi).grown ho2 hg5
          have hG5 := hG.out.next hfine.out hfd.out ho5 hio5 hb5
          rw [hE.out] at hG5
          go_wp2
          go_roundw
          case rel => exact ⟨j + 1, E, its ++ [it], by omega, by go_num, rfl, hG5⟩
          case measure => simp [intOf]; omega
      · obtain rfl : j = N := by omega
        have hfat := hG.fat
        have hsh : ∀ i ∈ its, Short i := fun i hi => (hG.mem i hi).2
        have hone := hG.all hN.out
        have hbr := hG.bel
        replace hone := hid hone
        replace hG := hid hG
        by_cases hR : Right (fds its)
        · have hcall := refput_right av its.length cv its wr rfl hfat hsh hR
          replace hR := hid hR
          replace hsh := hid hsh
          go_wp2_with fail
          refine hcall.mono ?_
          rintro e w1 ⟨h1 | h1, hb1⟩
          · obtain ⟨hlong, rfl⟩ := h1
            have hno : ∀ fs, Reads l fs → ¬ ∀ f ∈ fs, Fits f := fun fs hr hf => by
              have e := hone.out fs hr hf
              have h2 := hr.2.2
              rw [← hr.2.1, e] at h2
              omega
            replace hno := hid hno
            replace hlong := hid hlong
            have hbf := bnext hbr hb1
            go_wp2
            go_ret2
            exact ⟨.inr ⟨rfl, hno.out⟩, hbf⟩
          · obtain ⟨hsmall, v, rfl, hov⟩ := h1
            obtain ⟨a1, c1, rfl, _, hat1⟩ := hov.form
            have hbf := bnext hbr hb1
            have hatb := hat.below hbf
            by_cases hsame : bytesOf (fds its) = l
            · have hcs := same_any a1 (some ⟨b, o, none⟩) (bytesOf (fds its)).length len c1 cap _ l w1 rfl hl hat1 hatb hsame
              have hrd : Reads l (fds its) := ⟨hR.out, hsame, by rw [← hsame]; exact hsmall⟩
              replace hrd := hid hrd
              replace hsame := hid hsame
              replace hsmall := hid hsmall
              generalize (bytesOf (fds its)).length = X at *
              go_wp2_with fail
              refine hcs.mono ?_
              rintro e w2 ⟨rfl, rfl⟩
              go_wp2
              go_ret2
              exact ⟨.inl ⟨av, cv, its, rfl, hrd.out, hfat.below hb1⟩, hbf⟩
            · have hcs := same_no a1 (some ⟨b, o, none⟩) (bytesOf (fds its)).length len c1 cap _ l w1 rfl hl hat1 hatb hsame
              have hno : ∀ fs, Reads l fs → ¬ ∀ f ∈ fs, Fits f := fun fs hr hf => hsame (by rw [← hone.out fs hr hf]; exact hr.2.1)
              replace hno := hid hno
              replace hsame := hid hsame
              replace hsmall := hid hsmall
              generalize (bytesOf (fds its)).length = X at *
              go_wp2_with fail
              refine hcs.mono ?_
              rintro e w2 ⟨rfl, rfl⟩
              go_wp2
              go_ret2
              exact ⟨.inr ⟨rfl, hno.out⟩, hbf⟩
        · have hcall := refput_no av its.length cv its wr rfl hfat hsh hR
          have hno : ∀ fs, Reads l fs → ¬ ∀ f ∈ fs, Fits f := fun fs hr hf => hR (by rw [← hone.out fs hr hf]; exact hr.1)
          replace hno := hid hno
          replace hR := hid hR
          replace hsh := hid hsh
          go_wp2_with fail
          refine hcall.mono ?_
          rintro e w1 ⟨rfl, hb1⟩
          have hbf := bnext hbr hb1
          go_wp2
          go_ret2
          exact ⟨.inr ⟨rfl, hno.out⟩, hbf⟩

end Go.Proofs.Ytkkdiciadkcmmaa
