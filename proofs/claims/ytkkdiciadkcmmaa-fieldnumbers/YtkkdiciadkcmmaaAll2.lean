/- What All answers: the fields whose bytes these are, or ErrField. -/
import Derived.Test.YtkkdiciadkcmmaaAll
namespace Go.Proofs.Ytkkdiciadkcmmaa
open Go.RowKit

theorem many_mem {α : Type} (one : St → α × St) (k : Nat) (s : St) : ∀ x ∈ (many one k s).1, ∃ s', x = (one s').1 := by
  induction k with
  | zero => intro x hx; simp [many] at hx
  | succ k ih =>
    intro x hx
    unfold many at hx
    split at hx
    · exact ih x hx
    · rcases List.mem_append.1 hx with h | h
      · exact ih x h
      · exact ⟨_, List.mem_singleton.1 h⟩

theorem tkI_in (l : List UInt8) (s : St) : In64 (tkI l s).1 := i64_in _ (Nat.lt_of_lt_of_le (tkN_lt l 8 s) (by decide))

theorem tkOne_fits (l : List UInt8) (s : St) : Fits (tkOne l s).1 := by
  have h0 : In64 0 := by unfold In64; omega
  have hn : ∀ n ∈ ([] : List Int), In64 n := fun n hn => absurd hn (by simp)
  unfold tkOne
  simp only
  repeat' split
  · exact ⟨tkI_in l _, hn⟩
  · exact ⟨h0, hn⟩
  · refine ⟨h0, fun n hn => ?_⟩
    obtain ⟨s', rfl⟩ := many_mem _ _ _ n hn
    exact tkI_in l s'
  · exact ⟨h0, hn⟩
  · exact ⟨h0, hn⟩

theorem flds_at {w : World} {base base' n c : Nat} {a : Option Addr} {its : List It} (h : Flds w base (.slice a n c) its) (hi : ∀ i ∈ its, ItOwn w base' i) (hf : ∀ i ∈ its, Fits i.fd) : FAt w a its :=
  ⟨owns_cat h, fun i hm => ⟨owns_cat (hi i hm).1, owns_cat (hi i hm).2, hf i hm⟩⟩

/-- What All answers. -/
def AllPost (w' : World) (l : List UInt8) (e : Ending) : Prop :=
  (∃ a' c' its, e = .returned (.tuple #[.slice a' its.length c', .int .i64 0]) ∧ Reads l (fds its) ∧ FAt w' a' its) ∨ (e = .returned (.tuple #[.slice none 0 0, .int .i64 40]) ∧ ∀ fs, Reads l fs → ¬ ∀ f ∈ fs, Fits f)

theorem six_at {w : World} {g gb ga gw gn : Nat} (h : TB w g gb ga gw gn) : w.cell? ⟨g, 0, none⟩ = some (.func (.func 49) #[] #[.pointer (some ⟨gb, 0, none⟩), .pointer (some ⟨ga, 0, none⟩), .pointer (some ⟨gn, 0, none⟩)]) ∧ w.cell? ⟨g, 1, none⟩ = some (.func (.func 51) #[] #[.pointer (some ⟨gb, 0, none⟩), .pointer (some ⟨ga, 0, none⟩), .pointer (some ⟨gn, 0, none⟩)]) ∧ w.cell? ⟨g, 2, none⟩ = some (.func (.func 53) #[] #[.pointer (some ⟨gb, 0, none⟩), .pointer (some ⟨ga, 0, none⟩), .pointer (some ⟨gn, 0, none⟩)]) ∧ w.cell? ⟨g, 3, none⟩ = some (.func (.func 55) #[] #[.pointer (some ⟨gb, 0, none⟩), .pointer (some ⟨ga, 0, none⟩), .pointer (some ⟨gn, 0, none⟩)]) ∧ w.cell? ⟨g, 4, none⟩ = some (.func (.func 57) #[] #[.pointer (some ⟨gw, 0, none⟩)]) ∧ w.cell? ⟨g, 5, none⟩ = some (.func (.func 58) #[] #[.pointer (some ⟨gw, 0, none⟩), .pointer (some ⟨ga, 0, none⟩), .pointer (some ⟨gb, 0, none⟩)]) := by
  obtain ⟨h0, h1, h2, h3, h4, h5⟩ := h.six
  exact ⟨h0, h1, h2, h3, h4, h5⟩

set_option maxRecDepth 100000 in
set_option maxHeartbeats 1000000 in
theorem all_any (a : Option Addr) (len cap : Nat) (l : List UInt8) (w : World) (hl : l.length = len) (hcap : len ≤ cap) (hat : At w a l) :
    Calls Try.prog 11 #[.slice a len cap] w fun e w' => AllPost w' l e ∧ Below w.heap.size w w' := by
  by_cases hlong : 65000 < len
  · go_enter Try.func11, Try.ntmps11
    go_wp2
    go_ret2
    refine ⟨.inr ⟨rfl, fun fs hr _ => ?_⟩, Below.refl _ _⟩
    have := hr.2.2
    omega
  · have hlen : len ≤ 65000 := by omega
    clear hlong
    have hno : ∀ (h : ¬ ((tkAll l).2.2 = false ∧ (tkAll l).2.1 = l.length ∧ Right (tkAll l).1)), ∀ fs, Reads l fs → ¬ ∀ f ∈ fs, Fits f := fun h fs hr hf => h (by
      have e := reads_tkAll hr hf
      rw [e]
      exact ⟨rfl, rfl, hr.1⟩)
    have hyes := tkAll_reads (l := l) (by omega)
    obtain ⟨N, hN⟩ : ∃ N, N = tkN l 1 (0, false) := ⟨_, rfl⟩
    have hNl : N.1 < 256 := by rw [hN]; exact tkN_lt l 1 (0, false)
    have hAll : tkAll l = many (tkOne l) N.1 N.2 := by rw [hN]; rfl
    rw [hAll] at hno hyes
    replace hno := hid hno
    replace hyes := hid hyes
    replace hAll := hid hAll
    replace hN := hid hN
    go_enter Try.func11, Try.ntmps11
    go_wp2_with fail
    refine (taker_any a len cap _).mono ?_
    rintro e w1 ⟨gb, ga, gw, gn, rfl, ht1⟩
    have htd := (ht1.below (below_lit w1 (tkObj gb ga gw gn))).drew
    have hT : TB (w1.alloc (tkObj gb ga gw gn)).drew w1.heap.size gb ga gw gn := heap_alloc_new w1 _
    have hsm := small_any a len cap gb ga gw gn l (0, false) _ hl (by omega) hat htd
    rw [← hN.out] at hsm
    unfold tkObj at htd hT hsm
    have hw : IntKind.i64.wrap (N.1 : Int) = (N.1 : Int) := by rw [IntKind.wrap_i64]; omega
    unfold tkVal
    go_wp2_with fail
    go_region_held (fun w' : World => w'.cell? ⟨w1.heap.size, 0, none⟩ = some (.func (.func 49) #[] #[.pointer (some ⟨gb, 0, none⟩), .pointer (some ⟨ga, 0, none⟩), .pointer (some ⟨gn, 0, none⟩)]) ∧ w'.cell? ⟨w1.heap.size, 1, none⟩ = some (.func (.func 51) #[] #[.pointer (some ⟨gb, 0, none⟩), .pointer (some ⟨ga, 0, none⟩), .pointer (some ⟨gn, 0, none⟩)]) ∧ w'.cell? ⟨w1.heap.size, 2, none⟩ = some (.func (.func 53) #[] #[.pointer (some ⟨gb, 0, none⟩), .pointer (some ⟨ga, 0, none⟩), .pointer (some ⟨gn, 0, none⟩)]) ∧ w'.cell? ⟨w1.heap.size, 3, none⟩ = some (.func (.func 55) #[] #[.pointer (some ⟨gb, 0, none⟩), .pointer (some ⟨ga, 0, none⟩), .pointer (some ⟨gn, 0, none⟩)]) ∧ w'.cell? ⟨w1.heap.size, 4, none⟩ = some (.func (.func 57) #[] #[.pointer (some ⟨gw, 0, none⟩)]) ∧ w'.cell? ⟨w1.heap.size, 5, none⟩ = some (.func (.func 58) #[] #[.pointer (some ⟨gw, 0, none⟩), .pointer (some ⟨ga, 0, none⟩), .pointer (some ⟨gb, 0, none⟩)])) (first | exact six_at hT4 | exact six_at hT3 | exact six_at hT) (first
      | (go_at_call 49; refine hsm.mono ?_; rintro e w3 ⟨rfl, ht3, hk3⟩; have hT3 := hT.two htd hk3; have hfl := flds_any a len cap gb ga gw gn w1.heap.size N.1 l N.2 w3 hl (by omega) hcap hat ht3 hT3 (by omega); unfold tkVal at hfl)
      | (go_at_call 32; refine hfl.mono ?_; rintro e w4 ⟨a4, c4', its, rfl, hfd, hfo, hio, ht4, hT4, hk4⟩; replace hfd := hid hfd))
    all_goals
      obtain ⟨t0, t1, t2, t3, t4, t5⟩ := hT4.six
      have hfits : ∀ i ∈ its, Fits i.fd := fun i hi => by
        have : i.fd ∈ (many (tkOne l) N.1 N.2).1 := by rw [← hfd.out]; exact List.mem_map.2 ⟨i, hi, rfl⟩
        obtain ⟨s', e'⟩ := many_mem _ _ _ _ this
        rw [e']; exact tkOne_fits l s'
      have hfat := flds_at hfo hio hfits
      have hb4 : Below w.heap.size w w4 := ht4.bel
      have hend := ended_any a len cap gb ga gw gn _ _ ht4
      rw [← hfd.out] at hno hyes
      replace hfits := hid hfits
      replace hw := hid hw
      generalize (many (tkOne l) N.1 N.2).2 = E at *
      clear hsm hfl hT hT3 htd
      go_wp2_with fail
      refine hend.mono ?_
      rintro e w5 ⟨rfl, rfl⟩
      by_cases hE : E.2 = false ∧ E.1 = len
      · rw [show (!E.2 && E.1 == len) = true by rw [hE.1, hE.2]; simp]
        replace hE := hid hE
        go_wp2_with fail
        refine (right_any a4 its.length c4' its _ rfl hfat).mono ?_
        rintro e w6 ⟨r, rfl, hr, hb6⟩
        cases r with
        | false =>
          go_wp2
          go_ret2
          exact ⟨.inr ⟨rfl, hno.out (fun e => by have := hr.2 e.2.2; cases this)⟩, bnext hb4 hb6⟩
        | true =>
          go_wp2
          go_ret2
          exact ⟨.inl ⟨a4, c4', its, rfl, hyes.out ⟨hE.out.1, by rw [hE.out.2, hl], hr.1 (by trivial)⟩, hfat.below hb6⟩, bnext hb4 hb6⟩
      · rw [show (!E.2 && E.1 == len) = false by
          rw [Bool.and_eq_false_iff]
          by_cases h2 : E.2 = false
          · right; rw [beq_eq_false_iff_ne]; exact fun h => hE ⟨h2, h⟩
          · left; simp at h2; rw [h2]; rfl]
        replace hE := hid hE
        go_wp2
        go_ret2
        exact ⟨.inr ⟨rfl, hno.out (fun e => hE.out ⟨e.1, by rw [e.2.1, hl]⟩)⟩, hb4⟩
end Go.Proofs.Ytkkdiciadkcmmaa
