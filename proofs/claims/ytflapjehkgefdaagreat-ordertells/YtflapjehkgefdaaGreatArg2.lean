/- What the arguments are: configs, jobs, specs, numbers. -/
import Derived.Test.YtflapjehkgefdaaGreatCp2
import Derived.WalkKit
import Derived.ProofKit
import Derived.OpenShut
import Derived.ShutString
import Derived.ChangeOld
import Derived.Below
import Derived.SizedLaws
import Derived.Deep.SlicePairs
import Derived.Deep.Slices
import Derived.Lib.SmallJoins
namespace Go.Proofs.YtflapjehkgefdaaGreat
open Go.ChangeShapes Go.WideShapes Go.ChangeAt Go.RowKit

theorem mem_weightsAll {H : Type} {P : Program} {e : TypeId} {k : Nat} : ∀ {l : List (DataW H)} {d : DataW H}, d ∈ l → k ∈ d.weights P e → k ∈ DataW.weightsAll P e l
  | x :: r, d, hd, hk => by
    simp only [DataW.weightsAll, List.mem_append]
    rcases List.mem_cons.1 hd with rfl | h
    · exact .inl hk
    · exact .inr (mem_weightsAll h hk)

/-- Nothing in d is greater than an argument may be. -/
def OkW {H : Type} (t : TypeId) (d : DataW H) : Prop := ∀ k ∈ d.weights Tryz.prog t, k ≤ 140737488351232

theorem okw_of {H : Type} {ts : List TypeId} {ds : List (DataW H)} (hsz : (DataW.weightsEach Tryz.prog ts ds).all (· ≤ reachBytes) = true) {j : Nat} {t : TypeId} {d : DataW H} (ht : ts[j]? = some t) (hd : ds[j]? = some d) : OkW t d := fun k hk => by
  have := List.all_eq_true.1 hsz k (DataW.weights_mem_each ht hd k hk)
  have h2 : reachBytes = 140737488351232 := rfl
  simp only [decide_eq_true_eq] at this
  omega

section
variable {H : Type} (enc : TypeId × Value → H) (W : World) (base : Nat)

/-- Whatever is read as a t has such cells. -/
def Is (t : TypeId) (P : List Value → Prop) : Prop := ∀ (n : Nat) (cs : List Value) (y : DataW H × List MemPlace), DataW.trod enc Tryz.prog W base (fun _ => true) true n t cs = some y → OkW t y.1 → P cs

theorem is_int {t : TypeId} {k : IntKind} (hu : Tryz.prog.underlying t = some (.int k)) : Is enc W base t (fun cs => ∃ x : Int, cs = [.int k x]) := fun n cs y h _ => by
  obtain ⟨m, hm, _, _⟩ := DataW.trod_int hu h
  exact ⟨m, hm⟩
theorem is_u32 {t : TypeId} (hu : Tryz.prog.underlying t = some (.int .u32)) : Is enc W base t (fun cs => ∃ x : Nat, cs = [.int .u32 (x : Int)] ∧ x < 4294967296) := fun n cs y h _ => by
  obtain ⟨m, hm, _, hw⟩ := DataW.trod_int hu h
  have e0 : IntKind.u32.min = 0 := by decide
  have e1 : IntKind.u32.max = 4294967295 := by decide
  simp only [Lit.wf, e0, e1, Bool.and_eq_true, decide_eq_true_eq] at hw
  exact ⟨m.toNat, by rw [hm, Int.toNat_of_nonneg hw.1], by omega⟩
theorem is_str {t : TypeId} (hu : Tryz.prog.underlying t = some .string) : Is enc W base t (fun cs => ∃ s : ByteArray, cs = [.string s] ∧ s.size ≤ 9223372036854775807) := fun n cs y h _ => by
  obtain ⟨s, hs, _, hl⟩ := DataW.trod_string hu h
  exact ⟨s, hs, hl⟩

theorem is_slice {α : Type} [Inhabited α] {ts te : TypeId} (f : α → List Value) (m by_ : Nat) (Q : α → Prop) (hu : Tryz.prog.underlying ts = some (.slice te)) (hc : Tryz.prog.cellsOf te = m) (hby : Tryz.prog.bytesOf te = by_) (hf : ∀ x, (f x).length = m) (hm : 0 < m)
    (he : Is enc W base te (fun cs => ∃ x, cs = f x ∧ Q x)) :
    Is enc W base ts (fun cs => ∃ (a : Option Addr) (len cap : Nat) (B : List α), cs = [.slice a len cap] ∧ B.length = len ∧ CAt W a (B.flatMap f) ∧ len ≤ cap ∧ cap * by_ ≤ 140737488351232 ∧ ∀ x ∈ B, Q x) := by
  intro fuel cs y h hok
  rcases Deep.open_slice hu h with ⟨hcs, _⟩ | ⟨x, len, cap, k, n, D, Pl, hcs, _, hl, _, hmm, hd, hx⟩
  · exact ⟨none, 0, 0, [], hcs, rfl, CAt.nil _ _, Nat.le_refl _, by omega, fun x h => by cases h⟩
  · have hkc : k = cap := by rw [hmm]; rfl
    subst hd
    have hreach : cap * by_ ≤ 140737488351232 := by
      have := hok ((((List.range len).map D).length + ((List.range (k - len)).map fun j => D (len + j)).length) * Tryz.prog.bytesOf te) (by simp [DataW.weights, hu])
      rw [hby] at this
      simp only [List.length_map, List.length_range] at this
      rw [show len + (k - len) = cap by omega] at this
      exact this
    have each : ∀ i, i < len → ∃ o : α, (∀ r v, (f o)[r]? = some v → W.cell? (x.add (i * m + r)) = some v) ∧ Q o := fun i hi => by
      obtain ⟨cs', h1, h2⟩ := hx i (by omega)
      rw [hc] at h1
      obtain ⟨_, hlen, hcell⟩ := World.cells?_some h1
      obtain ⟨o, ho, hQ⟩ := he n cs' (D i, Pl i) h2 (fun q hq => hok q (by
        simp only [DataW.weights, hu, List.mem_cons, List.mem_append]
        exact .inr (.inl (mem_weightsAll (d := D i) (List.mem_map.2 ⟨i, List.mem_range.2 hi, rfl⟩) hq))))
      refine ⟨o, fun r v hv => ?_, hQ⟩
      have hr : r < (f o).length := by
        rcases Nat.lt_or_ge r (f o).length with h | h
        · exact h
        · rw [List.getElem?_eq_none h] at hv; cases hv
      have := hcell r (by rw [← hlen, ho]; exact hr)
      rw [Deep.add_add] at this
      rw [this]
      simp only [ho]
      exact hv
    obtain ⟨g, hg⟩ := Deep.choose_lt each
    refine ⟨some x, len, cap, (List.range len).map g, hcs, by simp, fun hne => ?_, hl, hreach, fun z hz => ?_⟩
    · have hpos : 0 < len := by
        rcases Nat.eq_zero_or_pos len with h | h
        · exact absurd (by simp [h]) hne
        · exact h
      obtain ⟨b, o, spot⟩ := x
      have h0 := (hg 0 hpos).1 0 _ (List.getElem?_eq_getElem (by rw [hf]; exact hm))
      have hspot : spot = none := by simpa [Addr.add] using World.cell?_spot h0
      subst hspot
      refine ⟨b, o, rfl, fun j hj => ?_⟩
      have hlen : ((List.range len).map g).length = len := by simp
      have hj' : j < len * m := by rw [flat_len f m hf, hlen] at hj; exact hj
      have hjd : j / m < len := (Nat.div_lt_iff_lt_mul hm).2 hj'
      have hg2 := flat_get f m hf ((List.range len).map g) (j / m) (j % m) (by rw [hlen]; exact hjd) (Nat.mod_lt _ hm)
      have e : j / m * m + j % m = j := by rw [Nat.mul_comm]; exact Nat.div_add_mod j m
      rw [e, List.getElem?_eq_getElem hj] at hg2
      have ef : ((List.range len).map g)[j / m]'(by rw [hlen]; exact hjd) = g (j / m) := by simp
      rw [ef] at hg2
      have := (hg (j / m) hjd).1 (j % m) _ hg2.symm
      rw [e] at this
      have hplain : (⟨b, o, none⟩ : Addr).add j = ⟨b, o + j, none⟩ := by unfold Addr.add; split <;> simp_all
      rw [hplain] at this
      exact this
    · obtain ⟨i, hi, rfl⟩ := List.mem_map.1 hz
      exact (hg i (List.mem_range.1 hi)).2

/-- The fields of a struct, one by one. -/
theorem is_struct {t : TypeId} {fs : Array Field} (hu : Tryz.prog.underlying t = some (.struct fs)) (P : List Value → Prop)
    (h : ∀ (cs : List Value), cs.length = Tryz.prog.cellsOf t → (∀ (i : Nat) (f : Field), fs[i]? = some f → ∀ Pi, Is enc W base f.type Pi → Pi ((cs.drop f.offset).take (Tryz.prog.cellsOf f.type))) → P cs) : Is enc W base t P := by
  intro n cs y hy hok
  obtain ⟨xs, k, _, rfl, hlen, hxl, hfs⟩ := DataW.trod_struct hu hy
  refine h cs hlen fun i f hf Pi hPi => ?_
  have hi : i < xs.length := by rw [hxl]; exact (Array.getElem?_eq_some_iff.1 hf).1
  have h1 := hfs i f hf
  rw [List.getElem?_eq_getElem hi] at h1
  refine hPi k _ _ h1 fun q hq => hok q ?_
  simp only [DataW.weights, hu]
  exact DataW.weights_mem_each (j := i) (t := f.type) (d := xs[i].1) (by simp [hf]) (by simp [List.getElem?_eq_getElem hi]) q hq

end

theorem c2 : Tryz.prog.cellsOf 2 = 1 := by kernel_rfl
theorem c3 : Tryz.prog.cellsOf 3 = 1 := by kernel_rfl
theorem c9 : Tryz.prog.cellsOf 9 = 1 := by kernel_rfl
theorem c22 : Tryz.prog.cellsOf 22 = 1 := by kernel_rfl
theorem c23 : Tryz.prog.cellsOf 23 = 1 := by kernel_rfl
theorem c24 : Tryz.prog.cellsOf 24 = 1 := by kernel_rfl
theorem c25 : Tryz.prog.cellsOf 25 = 1 := by kernel_rfl
theorem c26 : Tryz.prog.cellsOf 26 = 1 := by kernel_rfl
theorem c28 : Tryz.prog.cellsOf 28 = 5 := by kernel_rfl
theorem c30 : Tryz.prog.cellsOf 30 = 1 := by kernel_rfl
theorem c32 : Tryz.prog.cellsOf 32 = 8 := by kernel_rfl
theorem c49 : Tryz.prog.cellsOf 33 = 1 := by kernel_rfl
theorem c51 : Tryz.prog.cellsOf 35 = 1 := by kernel_rfl
theorem c53 : Tryz.prog.cellsOf 37 = 17 := by kernel_rfl
theorem c57 : Tryz.prog.cellsOf 80 = 3 := by kernel_rfl
theorem c59 : Tryz.prog.cellsOf 64 = 4 := by kernel_rfl
theorem c70 : Tryz.prog.cellsOf 65 = 1 := by kernel_rfl
theorem c90 : Tryz.prog.cellsOf 67 = 5 := by kernel_rfl
theorem c112 : Tryz.prog.cellsOf 117 = 1 := by kernel_rfl
theorem c114 : Tryz.prog.cellsOf 119 = 2 := by kernel_rfl

theorem len2 {α : Type} : ∀ {l : List α}, l.length = 2 → ∃ a b, l = [a, b]
  | [a, b], _ => ⟨a, b, rfl⟩
theorem len3 {α : Type} : ∀ {l : List α}, l.length = 3 → ∃ a b c, l = [a, b, c]
  | [a, b, c], _ => ⟨a, b, c, rfl⟩
theorem len4 {α : Type} : ∀ {l : List α}, l.length = 4 → ∃ a b c d, l = [a, b, c, d]
  | [a, b, c, d], _ => ⟨a, b, c, d, rfl⟩
theorem len5 {α : Type} : ∀ {l : List α}, l.length = 5 → ∃ a b c d e, l = [a, b, c, d, e]
  | [a, b, c, d, e], _ => ⟨a, b, c, d, e, rfl⟩
theorem len8 {α : Type} : ∀ {l : List α}, l.length = 8 → ∃ a b c d e f g h, l = [a, b, c, d, e, f, g, h]
  | [a, b, c, d, e, f, g, h], _ => ⟨a, b, c, d, e, f, g, h, rfl⟩
theorem len17 {α : Type} : ∀ {l : List α}, l.length = 17 → ∃ a b c d e f g h i j k l1 m n o p q, l = [a, b, c, d, e, f, g, h, i, j, k, l1, m, n, o, p, q]
  | [a, b, c, d, e, f, g, h, i, j, k, l1, m, n, o, p, q], _ => ⟨a, b, c, d, e, f, g, h, i, j, k, l1, m, n, o, p, q, rfl⟩

section
variable {H : Type} (enc : TypeId × Value → H) (W : World) (base : Nat)

theorem is_dep : Is enc W base 119 (fun cs => ∃ x : Dp, cs = dc2 x ∧ True) := by
  refine is_struct enc W base Tryz.underlying119 _ fun cs hl h => ?_
  obtain ⟨a, b, rfl⟩ := len2 (by rw [hl]; exact c114)
  have h0 := h 0 _ rfl _ (is_int enc W base (t := 117) Tryz.underlying117)
  have h1 := h 1 _ rfl _ (is_int enc W base (t := 3) Tryz.underlying3)
  simp [c3, c112] at h0 h1
  obtain ⟨x, rfl⟩ := h0
  obtain ⟨y, rfl⟩ := h1
  exact ⟨(x, y), rfl, trivial⟩

theorem is_acc : Is enc W base 80 (fun cs => ∃ x : Acc, cs = ac x ∧ x.1.size ≤ 9223372036854775807) := by
  refine is_struct enc W base Tryz.underlying80 _ fun cs hl h => ?_
  obtain ⟨a, b, c, rfl⟩ := len3 (by rw [hl]; exact c57)
  have h0 := h 0 _ rfl _ (is_str enc W base (t := 9) Tryz.underlying9)
  have h1 := h 1 _ rfl _ (is_str enc W base (t := 9) Tryz.underlying9)
  have h2 := h 2 _ rfl _ (is_int enc W base (t := 3) Tryz.underlying3)
  simp [c3, c9] at h0 h1 h2
  obtain ⟨x, rfl, hx⟩ := h0
  obtain ⟨y, rfl, _⟩ := h1
  obtain ⟨z, rfl⟩ := h2
  exact ⟨(x, y, z), rfl, hx⟩

theorem is_qual : Is enc W base 64 (fun cs => ∃ x : Qu, cs = qc x ∧ x.1.size ≤ 9223372036854775807) := by
  refine is_struct enc W base Tryz.underlying64 _ fun cs hl h => ?_
  obtain ⟨a, b, c, d, rfl⟩ := len4 (by rw [hl]; exact c59)
  have h0 := h 0 _ rfl _ (is_str enc W base (t := 9) Tryz.underlying9)
  have h1 := h 1 _ rfl _ (is_int enc W base (t := 3) Tryz.underlying3)
  have h2 := h 2 _ rfl _ (is_int enc W base (t := 3) Tryz.underlying3)
  have h3 := h 3 _ rfl _ (is_int enc W base (t := 3) Tryz.underlying3)
  simp [c3, c9] at h0 h1 h2 h3
  obtain ⟨x, rfl, hx⟩ := h0
  obtain ⟨y, rfl⟩ := h1
  obtain ⟨z, rfl⟩ := h2
  obtain ⟨u, rfl⟩ := h3
  exact ⟨(x, y, z, u), rfl, hx⟩

theorem is_text : Is enc W base 9 (fun cs => ∃ x : ByteArray, cs = [.string x] ∧ True) := fun n cs y h hok => by
  obtain ⟨s, hs, _⟩ := is_str enc W base (t := 9) Tryz.underlying9 n cs y h hok
  exact ⟨s, hs, trivial⟩
theorem is_num : Is enc W base 3 (fun cs => ∃ x : Int, cs = ic x ∧ True) := fun n cs y h hok => by
  obtain ⟨s, hs⟩ := is_int enc W base (t := 3) Tryz.underlying3 n cs y h hok
  exact ⟨s, hs, trivial⟩

theorem map_S (T : List ByteArray) : T.flatMap (fun x => [Value.string x]) = T.map S := by
  induction T with
  | nil => rfl
  | cons x r ih => simp only [List.flatMap_cons, List.map_cons, ih]; rfl

theorem is_part : Is enc W base 67 (fun cs => ∃ x : Prt × List ByteArray, cs = pc5 x.1 ∧ x.2.length = x.1.dn ∧ TAt W x.1.da x.2 ∧ x.1.dn * 16 ≤ 140737488355328 ∧ ∃ z : Nat, x.1.nodes = (z : Int) ∧ z < 4294967296) := by
  refine is_struct enc W base Tryz.underlying67 _ fun cs hl h => ?_
  obtain ⟨a, b, c, d, e, rfl⟩ := len5 (by rw [hl]; exact c90)
  haveI : Inhabited ByteArray := ⟨ByteArray.empty⟩
  have h0 := h 0 _ rfl _ (is_str enc W base (t := 9) Tryz.underlying9)
  have h1 := h 1 _ rfl _ (is_u32 enc W base (t := 35) Tryz.underlying35)
  have h2 := h 2 _ rfl _ (is_int enc W base (t := 3) Tryz.underlying3)
  have h3 := h 3 _ rfl _ (is_int enc W base (t := 2) Tryz.underlying2)
  have h4 := h 4 _ rfl _ (is_slice enc W base (ts := 65) (te := 9) (fun x => [Value.string x]) 1 16 (fun _ => True) Tryz.underlying65 c9 (by kernel_rfl) (fun _ => rfl) (by omega) (is_text enc W base))
  simp [c2, c3, c9, c51, c70] at h0 h1 h2 h3 h4
  obtain ⟨x, rfl, _⟩ := h0
  obtain ⟨y, rfl, hy⟩ := h1
  obtain ⟨z, rfl⟩ := h2
  obtain ⟨u, rfl⟩ := h3
  obtain ⟨ta, tn, tc, rfl, B, hB, hat, hle, hby⟩ := h4
  refine ⟨(⟨x, (y : Int), z, u, ta, tn, tc⟩, B), rfl, hB, ?_, by dsimp only; omega, y, rfl, hy⟩
  unfold TAt
  rw [← map_S]
  exact hat

theorem is_spec : Is enc W base 32 (fun cs => ∃ x : Spc × List Dp, cs = sc x.1 ∧ x.2.length = x.1.dn ∧ DAt W x.1.da x.2 ∧ x.1.dn * 16 ≤ 140737488355328) := by
  refine is_struct enc W base Tryz.underlying32 _ fun cs hl h => ?_
  obtain ⟨a, b, c, d, e, f, g, i, rfl⟩ := len8 (by rw [hl]; exact c32)
  have h0 := h 0 _ rfl _ (is_str enc W base (t := 9) Tryz.underlying9)
  have h1 := h 1 _ rfl _ (is_str enc W base (t := 9) Tryz.underlying9)
  have h2 := h 2 _ rfl _ (is_str enc W base (t := 9) Tryz.underlying9)
  have h3 := h 3 _ rfl _ (is_str enc W base (t := 9) Tryz.underlying9)
  have h4 := h 4 _ rfl _ (is_int enc W base (t := 3) Tryz.underlying3)
  have h5 := h 5 _ rfl _ (is_int enc W base (t := 3) Tryz.underlying3)
  have h6 := h 6 _ rfl _ (is_int enc W base (t := 2) Tryz.underlying2)
  have h7 := h 7 _ rfl _ (is_slice enc W base (ts := 30) (te := 119) dc2 2 16 (fun _ => True) Tryz.underlying30 c114 (by kernel_rfl) dc2_len (by omega) (is_dep enc W base))
  simp [c2, c3, c9, c30] at h0 h1 h2 h3 h4 h5 h6 h7
  obtain ⟨x0, rfl, _⟩ := h0
  obtain ⟨x1, rfl, _⟩ := h1
  obtain ⟨x2, rfl, _⟩ := h2
  obtain ⟨x3, rfl, _⟩ := h3
  obtain ⟨x4, rfl⟩ := h4
  obtain ⟨x5, rfl⟩ := h5
  obtain ⟨x6, rfl⟩ := h6
  obtain ⟨ta, tn, tc, rfl, B, hB, hat, hle, hby⟩ := h7
  exact ⟨(⟨x0, x1, x2, x3, x4, x5, x6, ta, tn, tc⟩, B), rfl, hB, hat, by dsimp only; omega⟩

theorem is_job : Is enc W base 37 (fun cs => ∃ x : Job × List Dp, cs = jc x.1 ∧ x.2.length = x.1.s.dn ∧ DAt W x.1.s.da x.2 ∧ x.1.s.dn * 16 ≤ 140737488355328) := by
  refine is_struct enc W base Tryz.underlying37 _ fun cs hl h => ?_
  obtain ⟨a0, a1, a2, a3, a4, a5, a6, a7, a8, a9, a10, a11, a12, a13, a14, a15, a16, rfl⟩ := len17 (by rw [hl]; exact c53)
  have h0 := h 0 _ rfl _ (is_int enc W base (t := 3) Tryz.underlying3)
  have h1 := h 1 _ rfl _ (is_int enc W base (t := 3) Tryz.underlying3)
  have h2 := h 2 _ rfl _ (is_int enc W base (t := 3) Tryz.underlying3)
  have h3 := h 3 _ rfl _ (is_spec enc W base)
  have h4 := h 4 _ rfl _ (is_int enc W base (t := 33) Tryz.underlying33)
  have h5 := h 5 _ rfl _ (is_int enc W base (t := 2) Tryz.underlying2)
  have h6 := h 6 _ rfl _ (is_int enc W base (t := 2) Tryz.underlying2)
  have h7 := h 7 _ rfl _ (is_int enc W base (t := 2) Tryz.underlying2)
  have h8 := h 8 _ rfl _ (is_int enc W base (t := 35) Tryz.underlying35)
  have h9 := h 9 _ rfl _ (is_int enc W base (t := 3) Tryz.underlying3)
  simp [c2, c3, c49, c51] at h0 h1 h2 h4 h5 h6 h7 h8 h9
  simp [c32, -Prod.exists] at h3
  obtain ⟨x0, rfl⟩ := h0
  obtain ⟨x1, rfl⟩ := h1
  obtain ⟨x2, rfl⟩ := h2
  obtain ⟨⟨s, D⟩, hs, hD⟩ := h3
  dsimp only at hs hD
  obtain ⟨x4, rfl⟩ := h4
  obtain ⟨x5, rfl⟩ := h5
  obtain ⟨x6, rfl⟩ := h6
  obtain ⟨x7, rfl⟩ := h7
  obtain ⟨x8, rfl⟩ := h8
  obtain ⟨x9, rfl⟩ := h9
  refine ⟨(⟨x0, x1, x2, s, x4, x5, x6, x7, x8, x9⟩, D), ?_, hD⟩
  simp only [sc, List.cons.injEq, and_true] at hs
  obtain ⟨rfl, rfl, rfl, rfl, rfl, rfl, rfl, rfl⟩ := hs
  rfl

/-- What a config is in memory. -/
structure CfgIn (ca pa aa qa : Option Addr) (cn cc pn pc ak az qk qc : Nat) (I : List Int) (M : List (Prt × List ByteArray)) (A : List Acc) (Q : List Qu) : Prop where
  il : I.length = cn
  iat : IAt W ca I
  ib : cn * 8 ≤ 140737488351232
  ml : M.length = pn
  mat : PtAt W pa (M.map (·.1))
  mb : pn * 64 ≤ 140737488351232
  min : PIn W M
  set : ∀ p ∈ M, ∃ z : Nat, p.1.nodes = (z : Int) ∧ z < 4294967296
  al : A.length = ak
  aat : AAt W aa A
  ale : ak ≤ az
  ab : ak * 40 ≤ 140737488351232
  asz : ∀ x ∈ A, x.1.size ≤ 9223372036854775807
  ql : Q.length = qk
  qat : QAt W qa Q
  qle : qk ≤ qc
  qb : qk * 40 ≤ 140737488351232
  qsz : ∀ x ∈ Q, x.1.size ≤ 9223372036854775807

theorem flat_fst {α β : Type} (f : α → List Value) (M : List (α × β)) : M.flatMap (fun x => f x.1) = (M.map (·.1)).flatMap f := by
  induction M with
  | nil => rfl
  | cons x r ih => simp only [List.flatMap_cons, List.map_cons, ih]

theorem is_cfg : Is enc W base 28 (fun cs => ∃ (ca pa aa qa : Option Addr) (cn cc pn pc ak az qk qc : Nat) (pol : Int) (I : List Int) (M : List (Prt × List ByteArray)) (A : List Acc) (Q : List Qu),
    cs = [.slice ca cn cc, .slice pa pn pc, .slice aa ak az, .slice qa qk qc, .int .u8 pol] ∧ CfgIn W ca pa aa qa cn cc pn pc ak az qk qc I M A Q) := by
  refine is_struct enc W base Tryz.underlying28 _ fun cs hl h => ?_
  obtain ⟨a, b, c, d, e, rfl⟩ := len5 (by rw [hl]; exact c28)
  haveI : Inhabited ByteArray := ⟨ByteArray.empty⟩
  haveI : Inhabited Prt := ⟨prt0⟩
  have h0 := h 0 _ rfl _ (is_slice enc W base (ts := 22) (te := 3) ic 1 8 (fun _ => True) Tryz.underlying22 c3 (by kernel_rfl) ic_len (by omega) (is_num enc W base))
  have h1 := h 1 _ rfl _ (is_slice enc W base (ts := 23) (te := 67) (fun x : Prt × List ByteArray => pc5 x.1) 5 64 _ Tryz.underlying23 c90 (by kernel_rfl) (fun _ => rfl) (by omega) (is_part enc W base))
  have h2 := h 2 _ rfl _ (is_slice enc W base (ts := 24) (te := 80) ac 3 40 _ Tryz.underlying24 c57 (by kernel_rfl) (fun _ => rfl) (by omega) (is_acc enc W base))
  have h3 := h 3 _ rfl _ (is_slice enc W base (ts := 25) (te := 64) qc 4 40 _ Tryz.underlying25 c59 (by kernel_rfl) qc_len (by omega) (is_qual enc W base))
  have h4 := h 4 _ rfl _ (is_int enc W base (t := 26) Tryz.underlying26)
  simp [c22, c23, c24, c25, c26, -Prod.forall, -Prod.exists] at h0 h1 h2 h3 h4
  obtain ⟨ca, cn, cc, rfl, I, i1, i2, i3, i4⟩ := h0
  obtain ⟨pa, pn, pc, rfl, M, m1, m2, m3, m4, m5⟩ := h1
  obtain ⟨aa, ak, az, rfl, A, a1, a2, a3, a4, a5⟩ := h2
  obtain ⟨qa, qk, qc0, rfl, Q, q1, q2, q3, q4, q5⟩ := h3
  obtain ⟨pol, rfl⟩ := h4
  refine ⟨ca, pa, aa, qa, cn, cc, pn, pc, ak, az, qk, qc0, pol, I, M, A, Q, rfl, i1, i2, by omega, m1, ?_, by omega, fun p hp => ⟨(m5 p hp).1, (m5 p hp).2.1, (m5 p hp).2.2.1⟩, fun p hp => (m5 p hp).2.2.2, a1, a2, a3, by omega, a5, q1, q2, q3, by omega, q5⟩
  unfold PtAt
  rw [← flat_fst]
  exact m2

set_option maxRecDepth 100000 in
theorem cfg_arg {base2 : Nat} {V : Value} {d0 : DataW H} {p0 : List MemPlace} (hv : Value.okWide Tryz.prog W .any base2 28 V) (h0 : DataW.Trod enc Tryz.prog W base (fun _ => true) true 28 V d0 p0) (hok : OkW 28 d0) :
    ∃ (ca pa aa qa : Option Addr) (cn cc pn pc ak az qk qc : Nat) (pol : Int) (I : List Int) (M : List (Prt × List ByteArray)) (A : List Acc) (Q : List Qu), V = .agg #[.slice ca cn cc, .slice pa pn pc, .slice aa ak az, .slice qa qk qc, .int .u8 pol] ∧ CfgIn W ca pa aa qa cn cc pn pc ak az qk qc I M A Q := by
  obtain ⟨cs, rfl, _⟩ := okWide_struct Tryz.underlying28 hv
  obtain ⟨fuel, hf⟩ := h0
  obtain ⟨ca, pa, aa, qa, cn, cc, pn, pc, ak, az, qk, qc, pol, I, M, A, Q, he, hin⟩ := is_cfg enc W base fuel _ (d0, p0) hf hok
  obtain ⟨l⟩ := cs
  simp only [Value.cells] at he
  subst he
  exact ⟨ca, pa, aa, qa, cn, cc, pn, pc, ak, az, qk, qc, pol, I, M, A, Q, rfl, hin⟩

set_option maxRecDepth 100000 in
theorem spec_arg {base2 : Nat} {V : Value} {d0 : DataW H} {p0 : List MemPlace} (hv : Value.okWide Tryz.prog W .any base2 32 V) (h0 : DataW.Trod enc Tryz.prog W base (fun _ => true) true 32 V d0 p0) (hok : OkW 32 d0) :
    ∃ (s : Spc) (D : List Dp), V = .agg (sc s).toArray ∧ D.length = s.dn ∧ DAt W s.da D ∧ s.dn * 16 ≤ 140737488355328 := by
  obtain ⟨cs, rfl, _⟩ := okWide_struct Tryz.underlying32 hv
  obtain ⟨fuel, hf⟩ := h0
  obtain ⟨⟨s, D⟩, he, h1⟩ := is_spec enc W base fuel _ (d0, p0) hf hok
  obtain ⟨l⟩ := cs
  simp only [Value.cells] at he
  subst he
  exact ⟨s, D, rfl, h1⟩

theorem texts_arg {a0 : Option Addr} {len0 cap0 : Nat} {d0 : DataW H} {p0 : List MemPlace} (h0 : DataW.Trod enc Tryz.prog W base (fun _ => true) true 65 (.slice a0 len0 cap0) d0 p0) (hok : OkW 65 d0) :
    ∃ T : List ByteArray, T.length = len0 ∧ TAt W a0 T ∧ len0 ≤ cap0 ∧ len0 * 16 ≤ 140737488351232 := by
  obtain ⟨fuel, hf⟩ := h0
  haveI : Inhabited ByteArray := ⟨ByteArray.empty⟩
  obtain ⟨a, len, cap, T, he, h1, h2, h3, h4, h5⟩ := is_slice enc W base (ts := 65) (te := 9) (fun x => [Value.string x]) 1 16 (fun _ => True) Tryz.underlying65 c9 (by kernel_rfl) (fun _ => rfl) (by omega) (is_text enc W base) fuel _ (d0, p0) hf hok
  simp [Value.cells] at he
  obtain ⟨rfl, rfl, rfl⟩ := he
  refine ⟨T, h1, ?_, h3, by omega⟩
  unfold TAt
  rw [← map_S]
  exact h2

theorem accs_arg {a0 : Option Addr} {len0 cap0 : Nat} {d0 : DataW H} {p0 : List MemPlace} (h0 : DataW.Trod enc Tryz.prog W base (fun _ => true) true 24 (.slice a0 len0 cap0) d0 p0) (hok : OkW 24 d0) :
    ∃ A : List Acc, A.length = len0 ∧ AAt W a0 A ∧ len0 ≤ cap0 ∧ len0 * 40 ≤ 140737488351232 ∧ ∀ x ∈ A, x.1.size ≤ 9223372036854775807 := by
  obtain ⟨fuel, hf⟩ := h0
  haveI : Inhabited ByteArray := ⟨ByteArray.empty⟩
  obtain ⟨a, len, cap, T, he, h1, h2, h3, h4, h5⟩ := is_slice enc W base (ts := 24) (te := 80) ac 3 40 _ Tryz.underlying24 c57 (by kernel_rfl) (fun _ => rfl) (by omega) (is_acc enc W base) fuel _ (d0, p0) hf hok
  simp [Value.cells] at he
  obtain ⟨rfl, rfl, rfl⟩ := he
  exact ⟨T, h1, h2, h3, by omega, h5⟩

theorem jobs_arg {a0 : Option Addr} {len0 cap0 : Nat} {d0 : DataW H} {p0 : List MemPlace} (h0 : DataW.Trod enc Tryz.prog W base (fun _ => true) true 29 (.slice a0 len0 cap0) d0 p0) (hok : OkW 29 d0) :
    ∃ M : List (Job × List Dp), M.length = len0 ∧ JAt W a0 (M.map (·.1)) ∧ len0 ≤ cap0 ∧ len0 * 184 ≤ 140737488351232 ∧ JIn W M := by
  obtain ⟨fuel, hf⟩ := h0
  haveI : Inhabited Job := ⟨job0⟩
  obtain ⟨a, len, cap, M, he, h1, h2, h3, h4, h5⟩ := is_slice enc W base (ts := 29) (te := 37) (fun x : Job × List Dp => jc x.1) 17 184 _ Tryz.underlying29 c53 (by kernel_rfl) (fun _ => rfl) (by omega) (is_job enc W base) fuel _ (d0, p0) hf hok
  simp [Value.cells] at he
  obtain ⟨rfl, rfl, rfl⟩ := he
  refine ⟨M, h1, ?_, h3, by omega, h5⟩
  unfold JAt
  rw [← flat_fst]
  exact h2

theorem ints_arg {a0 : Option Addr} {len0 cap0 : Nat} {d0 : DataW H} {p0 : List MemPlace} (h0 : DataW.Trod enc Tryz.prog W base (fun _ => true) true 22 (.slice a0 len0 cap0) d0 p0) (hok : OkW 22 d0) :
    ∃ M : List Int, M.length = len0 ∧ IAt W a0 M ∧ len0 * 8 ≤ 140737488351232 := by
  obtain ⟨fuel, hf⟩ := h0
  obtain ⟨a, len, cap, M, he, h1, h2, h3, h4, h5⟩ := is_slice enc W base (ts := 22) (te := 3) ic 1 8 (fun _ => True) Tryz.underlying22 c3 (by kernel_rfl) ic_len (by omega) (is_num enc W base) fuel _ (d0, p0) hf hok
  simp [Value.cells] at he
  obtain ⟨rfl, rfl, rfl⟩ := he
  exact ⟨M, h1, h2, by omega⟩
end

end Go.Proofs.YtflapjehkgefdaaGreat

namespace Go.Proofs.YtflapjehkgefdaaGreat
open Go.ChangeShapes Go.WideShapes Go.ChangeAt Go.RowKit
section
variable {H : Type} (enc : TypeId × Value → H) (W : World) (base : Nat)

theorem is_part2 : Is enc W base 67 (fun cs => ∃ x : Prt × List ByteArray, cs = pc5 x.1 ∧ x.2.length = x.1.dn ∧ TAt W x.1.da x.2 ∧ x.1.dn * 16 ≤ 140737488355328 ∧ (∃ z : Nat, x.1.nodes = (z : Int) ∧ z < 4294967296) ∧ x.1.dn ≤ x.1.dc ∧ x.1.name.size ≤ 9223372036854775807) := by
  refine is_struct enc W base Tryz.underlying67 _ fun cs hl h => ?_
  obtain ⟨a, b, c, d, e, rfl⟩ := len5 (by rw [hl]; exact c90)
  haveI : Inhabited ByteArray := ⟨ByteArray.empty⟩
  have h0 := h 0 _ rfl _ (is_str enc W base (t := 9) Tryz.underlying9)
  have h1 := h 1 _ rfl _ (is_u32 enc W base (t := 35) Tryz.underlying35)
  have h2 := h 2 _ rfl _ (is_int enc W base (t := 3) Tryz.underlying3)
  have h3 := h 3 _ rfl _ (is_int enc W base (t := 2) Tryz.underlying2)
  have h4 := h 4 _ rfl _ (is_slice enc W base (ts := 65) (te := 9) (fun x => [Value.string x]) 1 16 (fun _ => True) Tryz.underlying65 c9 (by kernel_rfl) (fun _ => rfl) (by omega) (is_text enc W base))
  simp [c2, c3, c9, c51, c70] at h0 h1 h2 h3 h4
  obtain ⟨x, rfl, hx⟩ := h0
  obtain ⟨y, rfl, hy⟩ := h1
  obtain ⟨z, rfl⟩ := h2
  obtain ⟨u, rfl⟩ := h3
  obtain ⟨ta, tn, tc, rfl, B, hB, hat, hle, hby⟩ := h4
  refine ⟨(⟨x, (y : Int), z, u, ta, tn, tc⟩, B), rfl, hB, ?_, by dsimp only; omega, ⟨y, rfl, hy⟩, hle, hx⟩
  unfold TAt
  rw [← map_S]
  exact hat

theorem is_spec2 : Is enc W base 32 (fun cs => ∃ x : Spc × List Dp, cs = sc x.1 ∧ x.2.length = x.1.dn ∧ DAt W x.1.da x.2 ∧ x.1.dn * 16 ≤ 140737488355328 ∧ x.1.user.size ≤ 9223372036854775807) := by
  refine is_struct enc W base Tryz.underlying32 _ fun cs hl h => ?_
  obtain ⟨a, b, c, d, e, f, g, i, rfl⟩ := len8 (by rw [hl]; exact c32)
  have h0 := h 0 _ rfl _ (is_str enc W base (t := 9) Tryz.underlying9)
  have h1 := h 1 _ rfl _ (is_str enc W base (t := 9) Tryz.underlying9)
  have h2 := h 2 _ rfl _ (is_str enc W base (t := 9) Tryz.underlying9)
  have h3 := h 3 _ rfl _ (is_str enc W base (t := 9) Tryz.underlying9)
  have h4 := h 4 _ rfl _ (is_int enc W base (t := 3) Tryz.underlying3)
  have h5 := h 5 _ rfl _ (is_int enc W base (t := 3) Tryz.underlying3)
  have h6 := h 6 _ rfl _ (is_int enc W base (t := 2) Tryz.underlying2)
  have h7 := h 7 _ rfl _ (is_slice enc W base (ts := 30) (te := 119) dc2 2 16 (fun _ => True) Tryz.underlying30 c114 (by kernel_rfl) dc2_len (by omega) (is_dep enc W base))
  simp [c2, c3, c9, c30] at h0 h1 h2 h3 h4 h5 h6 h7
  obtain ⟨x0, rfl, hx⟩ := h0
  obtain ⟨x1, rfl, _⟩ := h1
  obtain ⟨x2, rfl, _⟩ := h2
  obtain ⟨x3, rfl, _⟩ := h3
  obtain ⟨x4, rfl⟩ := h4
  obtain ⟨x5, rfl⟩ := h5
  obtain ⟨x6, rfl⟩ := h6
  obtain ⟨ta, tn, tc, rfl, B, hB, hat, hle, hby⟩ := h7
  exact ⟨(⟨x0, x1, x2, x3, x4, x5, x6, ta, tn, tc⟩, B), rfl, hB, hat, by dsimp only; omega, hx⟩

theorem is_cfg2 : Is enc W base 28 (fun cs => ∃ (ca pa aa qa : Option Addr) (cn cc pn pc ak az qk qc : Nat) (pol : Int) (I : List Int) (M : List (Prt × List ByteArray)) (A : List Acc) (Q : List Qu),
    cs = [.slice ca cn cc, .slice pa pn pc, .slice aa ak az, .slice qa qk qc, .int .u8 pol] ∧ CfgIn W ca pa aa qa cn cc pn pc ak az qk qc I M A Q ∧ pn ≤ pc ∧ (∀ p ∈ M, p.1.dn ≤ p.1.dc) ∧ (∀ p ∈ M, p.1.name.size ≤ 9223372036854775807)) := by
  refine is_struct enc W base Tryz.underlying28 _ fun cs hl h => ?_
  obtain ⟨a, b, c, d, e, rfl⟩ := len5 (by rw [hl]; exact c28)
  haveI : Inhabited ByteArray := ⟨ByteArray.empty⟩
  haveI : Inhabited Prt := ⟨prt0⟩
  have h0 := h 0 _ rfl _ (is_slice enc W base (ts := 22) (te := 3) ic 1 8 (fun _ => True) Tryz.underlying22 c3 (by kernel_rfl) ic_len (by omega) (is_num enc W base))
  have h1 := h 1 _ rfl _ (is_slice enc W base (ts := 23) (te := 67) (fun x : Prt × List ByteArray => pc5 x.1) 5 64 _ Tryz.underlying23 c90 (by kernel_rfl) (fun _ => rfl) (by omega) (is_part2 enc W base))
  have h2 := h 2 _ rfl _ (is_slice enc W base (ts := 24) (te := 80) ac 3 40 _ Tryz.underlying24 c57 (by kernel_rfl) (fun _ => rfl) (by omega) (is_acc enc W base))
  have h3 := h 3 _ rfl _ (is_slice enc W base (ts := 25) (te := 64) qc 4 40 _ Tryz.underlying25 c59 (by kernel_rfl) qc_len (by omega) (is_qual enc W base))
  have h4 := h 4 _ rfl _ (is_int enc W base (t := 26) Tryz.underlying26)
  simp [c22, c23, c24, c25, c26, -Prod.forall, -Prod.exists] at h0 h1 h2 h3 h4
  obtain ⟨ca, cn, cc, rfl, I, i1, i2, i3, i4⟩ := h0
  obtain ⟨pa, pn, pc, rfl, M, m1, m2, m3, m4, m5⟩ := h1
  obtain ⟨aa, ak, az, rfl, A, a1, a2, a3, a4, a5⟩ := h2
  obtain ⟨qa, qk, qc0, rfl, Q, q1, q2, q3, q4, q5⟩ := h3
  obtain ⟨pol, rfl⟩ := h4
  refine ⟨ca, pa, aa, qa, cn, cc, pn, pc, ak, az, qk, qc0, pol, I, M, A, Q, rfl, ⟨i1, i2, by omega, m1, ?_, by omega, fun p hp => ⟨(m5 p hp).1, (m5 p hp).2.1, (m5 p hp).2.2.1⟩, fun p hp => (m5 p hp).2.2.2.1, a1, a2, a3, by omega, a5, q1, q2, q3, by omega, q5⟩, m3, fun p hp => (m5 p hp).2.2.2.2.1, fun p hp => (m5 p hp).2.2.2.2.2⟩
  unfold PtAt
  rw [← flat_fst]
  exact m2


set_option maxRecDepth 100000 in
theorem cfg_arg2 {base2 : Nat} {V : Value} {d0 : DataW H} {p0 : List MemPlace} (hv : Value.okWide Tryz.prog W .any base2 28 V) (h0 : DataW.Trod enc Tryz.prog W base (fun _ => true) true 28 V d0 p0) (hok : OkW 28 d0) :
    ∃ (ca pa aa qa : Option Addr) (cn cc pn pc ak az qk qc : Nat) (pol : Int) (I : List Int) (M : List (Prt × List ByteArray)) (A : List Acc) (Q : List Qu), V = .agg #[.slice ca cn cc, .slice pa pn pc, .slice aa ak az, .slice qa qk qc, .int .u8 pol] ∧ CfgIn W ca pa aa qa cn cc pn pc ak az qk qc I M A Q ∧ pn ≤ pc ∧ (∀ p ∈ M, p.1.dn ≤ p.1.dc) ∧ (∀ p ∈ M, p.1.name.size ≤ 9223372036854775807) := by
  obtain ⟨cs, rfl, _⟩ := okWide_struct Tryz.underlying28 hv
  obtain ⟨fuel, hf⟩ := h0
  obtain ⟨ca, pa, aa, qa, cn, cc, pn, pc, ak, az, qk, qc, pol, I, M, A, Q, he, hin⟩ := is_cfg2 enc W base fuel _ (d0, p0) hf hok
  obtain ⟨l⟩ := cs
  simp only [Value.cells] at he
  subst he
  exact ⟨ca, pa, aa, qa, cn, cc, pn, pc, ak, az, qk, qc, pol, I, M, A, Q, rfl, hin⟩


set_option maxRecDepth 100000 in
theorem spec_arg2 {base2 : Nat} {V : Value} {d0 : DataW H} {p0 : List MemPlace} (hv : Value.okWide Tryz.prog W .any base2 32 V) (h0 : DataW.Trod enc Tryz.prog W base (fun _ => true) true 32 V d0 p0) (hok : OkW 32 d0) :
    ∃ (s : Spc) (D : List Dp), V = .agg (sc s).toArray ∧ D.length = s.dn ∧ DAt W s.da D ∧ s.dn * 16 ≤ 140737488355328 ∧ s.user.size ≤ 9223372036854775807 := by
  obtain ⟨cs, rfl, _⟩ := okWide_struct Tryz.underlying32 hv
  obtain ⟨fuel, hf⟩ := h0
  obtain ⟨⟨s, D⟩, he, h1⟩ := is_spec2 enc W base fuel _ (d0, p0) hf hok
  obtain ⟨l⟩ := cs
  simp only [Value.cells] at he
  subst he
  exact ⟨s, D, rfl, h1⟩

set_option maxRecDepth 100000 in
theorem job_arg {base2 : Nat} {V : Value} {d0 : DataW H} {p0 : List MemPlace} (hv : Value.okWide Tryz.prog W .any base2 37 V) (h0 : DataW.Trod enc Tryz.prog W base (fun _ => true) true 37 V d0 p0) (hok : OkW 37 d0) :
    ∃ J : Job, V = .agg (jc J).toArray := by
  obtain ⟨cs, rfl, _⟩ := okWide_struct Tryz.underlying37 hv
  obtain ⟨fuel, hf⟩ := h0
  obtain ⟨x, he, _⟩ := is_job enc W base fuel _ (d0, p0) hf hok
  obtain ⟨l⟩ := cs
  simp only [Value.cells] at he
  subst he
  exact ⟨x.1, rfl⟩

end

end Go.Proofs.YtflapjehkgefdaaGreat
