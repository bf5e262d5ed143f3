/- What oneOf answers, whatever the kind; what keeps fields of the call's own. -/
import Derived.Test.YtkkdiciadkcmmaaOne
import Derived.Test.YtkkdiciadkcmmaaOne3
import Derived.Test.YtkkdiciadkcmmaaOne4
namespace Go.Proofs.Ytkkdiciadkcmmaa
open Go.RowKit

theorem one_any {w0 : World} (a : Option Addr) (len cap gb ga gw gn : Nat) (l : List UInt8) (s : St) (w : World) (hl : l.length = len) (hlen : len ≤ 100000) (hcap : len ≤ cap) (hat : At w0 a l) (h : Tk w0 w a len cap gb ga gw gn s) :
    Calls Try.prog 34 #[tkVal gb ga gw gn] w fun e w' => ∃ it : It, e = .returned it.val ∧ it.fd = (tkOne l s).1 ∧ ItOwn w' w.heap.size it ∧ Tk w0 w' a len cap gb ga gw gn (tkOne l s).2 ∧ Kp (Two ga gw) w w' := by
  by_cases h3 : (tkN l 1 (tkN l 1 s).2).1 = 3
  · exact one_nums a len cap gb ga gw gn l s w hl hlen hat h h3
  · by_cases h4 : (tkN l 1 (tkN l 1 s).2).1 = 4
    · exact one_txts a len cap gb ga gw gn l s w hl hlen hcap hat h h4
    · exact one_else a len cap gb ga gw gn l s w hl hlen hcap hat h ⟨h3, h4⟩

theorem ItOwn.kp {S : Nat → Prop} {w w' : World} {base : Nat} {i : It} (h : ItOwn w base i) (hk : Kp S w w') (h1 : ∀ k, (Value.slice i.na i.fd.ns.length i.nc).ownBlock = some k → ¬ S k) (h2 : ∀ k, (Value.slice i.ta i.fd.texts.length i.tc).ownBlock = some k → ¬ S k) : ItOwn w' base i := ⟨owns_kp h.1 hk h1, owns_kp h.2 hk h2⟩

theorem ItOwn.below {w w' : World} {base : Nat} {i : It} (h : ItOwn w base i) (hb : Below w.heap.size w w') : ItOwn w' base i := h.kp (S := fun _ => False) (Kp.of_below hb) (fun _ _ h => h) (fun _ _ h => h)
theorem ItOwn.low {w : World} {base base' : Nat} {i : It} (h : ItOwn w base i) (hb : base' ≤ base) : ItOwn w base' i := ⟨owns_low h.1 hb, owns_low h.2 hb⟩
theorem ItOwn.two {w0 w w' : World} {a : Option Addr} {len cap gb ga gw gn base : Nat} {s : St} {i : It} (h : ItOwn w base i) (ht : Tk w0 w a len cap gb ga gw gn s) (hk : Kp (Two ga gw) w w') : ItOwn w' base i := h.kp hk (ht.apart h.1 (by decide) (by decide)) (ht.apart h.2 (by decide) (by decide))
theorem ItOwn.block {S : Nat → Prop} {w w' : World} {base g : Nat} {i : It} {c : Array Value} {f : Nat × Nat} (h : ItOwn w base i) (hk : Kp S w w') (hS : ∀ k, S k → k = g) (hg : w.heap[g]? = some (.cells c 30 f)) : ItOwn w' base i :=
  h.kp hk (fun k hk' hs => owns_block_ne h.1 hg (by decide) (by rw [hk', hS k hs])) (fun k hk' hs => owns_block_ne h.2 hg (by decide) (by rw [hk', hS k hs]))
theorem ItOwn.grown {w w' : World} {base base' n : Nat} {i : It} {v : Value} {xs : List Value} (h : ItOwn w base i) (ho : w.ownsRow base' 30 6 v n xs) (hg : w.grownBy w' v.ownBlock) : ItOwn w' base i :=
  h.kp (Kp.grown hg) (fun k hk e => owns_apart h.1 ho (by decide) k hk e) (fun k hk e => owns_apart h.2 ho (by decide) k hk e)

theorem begin_all1 {w0 w w1 : World} {a : Option Addr} {len cap gb ga gw gn : Nat} {s : St} {c0 c1 c2 c3 c4 c5 : Value} {it : It} (h : Tk w0 w a len cap gb ga gw gn s) (hk : Kp (Two ga gw) (w.alloc (.cells #[c0, c1, c2, c3, c4, c5] 30)) w1) (hio : ItOwn w1 (w.alloc (.cells #[c0, c1, c2, c3, c4, c5] 30)).heap.size it) :
    RB w1 w.heap.size c0 c1 c2 c3 c4 c5 ∧ Kp (Two ga gw) w w1 ∧ ItOwn w1 w.heap.size it := by
  have hbl := below_lit w (.cells #[c0, c1, c2, c3, c4, c5] 30)
  exact ⟨RB.two (heap_alloc_new w _) (h.below hbl) hk, (Kp.of_below hbl).trans hk, hio.low hbl.size⟩

end Go.Proofs.Ytkkdiciadkcmmaa
