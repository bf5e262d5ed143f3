/- slices.SortFunc of spans, by when they begin: as the library's contract names it. -/
import Derived.Shelf.SlSortCmp.NoneTotal
import Derived.Test.YtilncacmkfohdaaGreatPfSame
import Derived.Test.YtilncacmkfohdaaGreatPfPl
namespace Go.Proofs.YtilncacmkfohdaaGreat.Pf
open Go.Shelf Go.RowKit Go.Lib Go.Sort
def sortSp_ren : Go.Shelf.Ren := ⟨fun | 6 => 80 | 15 => 91 | 14 => 90 | 28 => 102 | 29 => 103 | 20 => 94 | 21 => 95 | 22 => 96 | 23 => 97 | 24 => 98 | 25 => 99 | 26 => 100 | 27 => 101 | 46 => 104 | 47 => 105 | 48 => 106 | 49 => 107 | 50 => 108 | 57 => 109 | n => n, fun | 22 => 69 | 24 => 103 | 25 => 136 | 3 => 3 | 39 => 137 | 0 => 0 | 53 => 41 | 55 => 152 | 4 => 4 | 46 => 146 | 45 => 145 | 50 => 39 | 5 => 5 | 9 => 9 | 66 => 153 | 70 => 157 | 76 => 159 | 77 => 160 | n => n, fun | n => n⟩
theorem sortSp : Go.Proofs.SlLaysF0.n6 Tryz.prog sortSp_ren := {
  mixed := by kernel_rfl
  f6 := ⟨Tryz.f80.name, by decide, Tryz.func80.trans (congrArg some (by kernel_rfl))⟩
  f14 := ⟨Tryz.f90.name, by decide, Tryz.func90.trans (congrArg some (by kernel_rfl))⟩
  f15 := Tryz.func91.trans (congrArg some (by kernel_rfl))
  f20 := ⟨Tryz.f94.name, by decide, Tryz.func94.trans (congrArg some (by kernel_rfl))⟩
  f21 := ⟨Tryz.f95.name, by decide, Tryz.func95.trans (congrArg some (by kernel_rfl))⟩
  f22 := ⟨Tryz.f96.name, by decide, Tryz.func96.trans (congrArg some (by kernel_rfl))⟩
  f23 := ⟨Tryz.f97.name, by decide, Tryz.func97.trans (congrArg some (by kernel_rfl))⟩
  f24 := ⟨Tryz.f98.name, by decide, Tryz.func98.trans (congrArg some (by kernel_rfl))⟩
  f25 := ⟨Tryz.f99.name, by decide, Tryz.func99.trans (congrArg some (by kernel_rfl))⟩
  f26 := ⟨Tryz.f100.name, by decide, Tryz.func100.trans (congrArg some (by kernel_rfl))⟩
  f27 := ⟨Tryz.f101.name, by decide, Tryz.func101.trans (congrArg some (by kernel_rfl))⟩
  f28 := Tryz.func102.trans (congrArg some (by kernel_rfl))
  f29 := Tryz.func103.trans (congrArg some (by kernel_rfl))
  f46 := ⟨Tryz.f104.name, by decide, Tryz.func104.trans (congrArg some (by kernel_rfl))⟩
  f47 := Tryz.func105.trans (congrArg some (by kernel_rfl))
  f48 := Tryz.func106.trans (congrArg some (by kernel_rfl))
  f49 := ⟨Tryz.f107.name, by decide, Tryz.func107.trans (congrArg some (by kernel_rfl))⟩
  f50 := ⟨Tryz.f108.name, by decide, Tryz.func108.trans (congrArg some (by kernel_rfl))⟩
  f57 := ⟨Tryz.f109.name, by decide, Tryz.func109.trans (congrArg some (by kernel_rfl))⟩
  t0 := Tryz.underlying0
  a0 := Tryz.isAgg0
  z0 := Tryz.sizeOf0
  v0 := Tryz.zeroValue0
  t3 := Tryz.underlying3
  a3 := Tryz.isAgg3
  z3 := Tryz.sizeOf3
  v3 := Tryz.zeroValue3
  t4 := Tryz.underlying4
  a4 := Tryz.isAgg4
  z4 := Tryz.sizeOf4
  v4 := Tryz.zeroValue4
  t5 := Tryz.underlying5
  a5 := Tryz.isAgg5
  z5 := Tryz.sizeOf5
  v5 := Tryz.zeroValue5
  t9 := Tryz.underlying9
  a9 := Tryz.isAgg9
  z9 := Tryz.sizeOf9
  v9 := Tryz.zeroValue9
  t22 := Tryz.underlying69
  a22 := Tryz.isAgg69
  z22 := Tryz.sizeOf69
  v22 := Tryz.zeroValue69
  t25 := Tryz.underlying136
  a25 := Tryz.isAgg136
  z25 := Tryz.sizeOf136
  v25 := Tryz.zeroValue136
  t39 := Tryz.underlying137
  a39 := Tryz.isAgg137
  z39 := Tryz.sizeOf137
  v39 := Tryz.zeroValue137
  t45 := Tryz.underlying145
  a45 := Tryz.isAgg145
  z45 := Tryz.sizeOf145
  v45 := Tryz.zeroValue145
  t46 := Tryz.underlying146
  a46 := Tryz.isAgg146
  z46 := Tryz.sizeOf146
  v46 := Tryz.zeroValue146
  t50 := Tryz.underlying39
  a50 := Tryz.isAgg39
  z50 := Tryz.sizeOf39
  v50 := Tryz.zeroValue39
  t53 := Tryz.underlying41
  a53 := Tryz.isAgg41
  z53 := Tryz.sizeOf41
  v53 := Tryz.zeroValue41
  t55 := Tryz.underlying152
  a55 := Tryz.isAgg152
  z55 := Tryz.sizeOf152
  v55 := Tryz.zeroValue152
  t66 := Tryz.underlying153
  a66 := Tryz.isAgg153
  z66 := Tryz.sizeOf153
  v66 := Tryz.zeroValue153
  t70 := Tryz.underlying157
  a70 := Tryz.isAgg157
  z70 := Tryz.sizeOf157
  v70 := Tryz.zeroValue157
  t76 := Tryz.underlying159
  a76 := Tryz.isAgg159
  z76 := Tryz.sizeOf159
  v76 := Tryz.zeroValue159
  t77 := Tryz.underlying160
  a77 := Tryz.isAgg160
  z77 := Tryz.sizeOf160
  v77 := Tryz.zeroValue160 }

def sc (x : Span) : List Value := [.int .i64 x.1, .int .i64 x.2]

theorem isnan_any (x : Int) (w : World) : Calls Tryz.prog 92 #[.int .i64 x] w fun e w' => e = .returned (.bool false) ∧ w' = w := by
  go_enter Tryz.func92, Tryz.ntmps92
  go_wp2
  go_ret
  exact ⟨rfl, rfl⟩

theorem compare_any (x y : Int) (w : World) : Calls Tryz.prog 82 #[.int .i64 x, .int .i64 y] w fun e w' => e = .returned (.int .i64 (Lib.compareInt x y)) ∧ w' = w := by
  by_cases h1 : x < y
  · have hf := hid (show Lib.compareInt x y = -1 by simp [Lib.compareInt, h1])
    have d1 : decide (x < y) = true := decide_eq_true h1
    go_enter Tryz.func82, Tryz.ntmps82
    go_wp2_with (go_at_call 92; refine (isnan_any _ _).mono ?_; rintro e w' ⟨rfl, rfl⟩)
    go_ret
    rw [hf.out]; exact ⟨rfl, rfl⟩
  · have d1 : decide (x < y) = false := decide_eq_false h1
    by_cases h2 : y < x
    · have hf := hid (show Lib.compareInt x y = 1 by simp [Lib.compareInt, h1, h2])
      have d2 : decide (y < x) = true := decide_eq_true h2
      go_enter Tryz.func82, Tryz.ntmps82
      go_wp2_with (go_at_call 92; refine (isnan_any _ _).mono ?_; rintro e w' ⟨rfl, rfl⟩)
      go_ret
      rw [hf.out]; exact ⟨rfl, rfl⟩
    · have hf := hid (show Lib.compareInt x y = 0 by simp [Lib.compareInt, h1, h2])
      have d2 : decide (y < x) = false := decide_eq_false h2
      go_enter Tryz.func82, Tryz.ntmps82
      go_wp2_with (go_at_call 92; refine (isnan_any _ _).mono ?_; rintro e w' ⟨rfl, rfl⟩)
      go_ret
      rw [hf.out]; exact ⟨rfl, rfl⟩

theorem cmp_any (x y : Span) (W : World) : Calls Tryz.prog 81 #[.agg #[.int .i64 x.1, .int .i64 x.2], .agg #[.int .i64 y.1, .int .i64 y.2]] W fun e w' => e = .returned (.int .i64 (Lib.compareInt x.1 y.1)) ∧ ∃ q os', w' = grow (W.drewN q) os' := by
  have hcon := fun W' => compare_any x.1 y.1 W'
  generalize Lib.compareInt x.1 y.1 = r at hcon ⊢
  go_enter Tryz.func81, Tryz.ntmps81
  go_wp2_with (go_at_call 82; refine (hcon _).mono ?_; rintro e w' ⟨rfl, rfl⟩)
  go_ret
  exact ⟨rfl, 0, _, by rw [alloc_eq_grow, alloc_eq_grow, grow_grow]; rfl⟩

theorem cmp_lays (blk off size : Nat) (w : World) : CmpLays Tryz.prog 81 #[] sc 2 (fun x y => Lib.compareInt x.1 y.1) blk off size w := fun _ _ _ _ x y => cmp_any x y _

theorem ltLo (x y : Span) : ltOf (fun x y : Span => Lib.compareInt x.1 y.1) x y = decide (x.1 < y.1) := by
  unfold ltOf Lib.compareInt
  by_cases h1 : x.1 < y.1
  · simp [h1]
  · by_cases h2 : y.1 < x.1 <;> simp [h1, h2]

theorem swoLo : SWO (ltOf fun x y : Span => Lib.compareInt x.1 y.1) where
  irrefl x := by rw [ltLo]; simp
  trans x y z h1 h2 := by rw [ltLo] at *; simp at *; omega
  ntrans x y z h1 h2 := by rw [ltLo] at *; simp at *; omega

/-- The spans of l in a row. -/
def SpRow (w : World) (g : Nat) (l : List Span) : Prop := ∀ i, i < l.length → (w.cell? ⟨g, i * 2, none⟩ = some (.int .i64 (sp l i).1) ∧ w.cell? ⟨g, i * 2 + 1, none⟩ = some (.int .i64 (sp l i).2)) ∧ w.frozen? ⟨g, i * 2, none⟩ = false ∧ w.frozen? ⟨g, i * 2 + 1, none⟩ = false

theorem arr_sp (l : List Span) {i : Nat} (h : i < l.length) : l.toArray[i]! = sp l i := by
  rw [getElem!_pos l.toArray i (by simpa using h)]
  simp [sp, List.getD, h]

theorem row_holds {w : World} {g : Nat} {l : List Span} (h : SpRow w g l) : HoldsK sc 2 w g 0 l.toArray := by
  intro j hj
  rw [size_flatK] at hj
  have hj2 : j < l.length * 2 := by simpa using hj
  have hi : j / 2 < l.length := by omega
  rw [get_flatK _ _ _ j hj, arr_sp l hi, Nat.zero_add]
  obtain ⟨⟨h1, h2⟩, h3, h4⟩ := h (j / 2) hi
  rcases Nat.mod_two_eq_zero_or_one j with e | e
  · rw [e]
    have : j / 2 * 2 = j := by omega
    rw [this] at h1 h3
    exact ⟨h1, h3⟩
  · rw [e]
    have : j / 2 * 2 + 1 = j := by omega
    rw [this] at h2 h4
    exact ⟨h2, h4⟩

theorem holds_row {w : World} {g : Nat} {d : Array Span} (h : HoldsK sc 2 w g 0 d) : SpRow w g d.toList := by
  intro i hi
  have hd : i < d.size := by simpa using hi
  have h0 := h.cell (i := i) (c := 0) hd (by omega)
  have h1 := h.cell (i := i) (c := 1) hd (by omega)
  have e : d[i]! = sp d.toList i := by
    have := arr_sp d.toList hi
    simpa using this
  rw [e] at h0 h1
  simp only [Nat.zero_add, Nat.add_zero] at h0 h1
  exact ⟨⟨h0.1, h1.1⟩, h0.2, h1.2⟩

theorem kp_sort {w : World} {g n : Nat} {d : Array Span} {os : Array Obj} : Kp (fun k => k = g) w (sortWorldK sc 2 w g 0 n d os) := by
  unfold sortWorldK
  have hs : (putRowK sc 2 (Sort.ahead w n) g 0 d).heap.size = w.heap.size := by simp [putRowK, putRow, mapBlock, Sort.ahead]
  refine ⟨rfl, rfl, rfl, by rw [size_grow, hs]; omega, fun k hk hn => ?_⟩
  rw [heap_grow_old _ _ (by rw [hs]; exact hk)]
  unfold putRowK putRow mapBlock
  simp only [Sort.ahead]
  rw [Array.getElem?_modify]
  rw [if_neg (by omega)]

/-- slices.SortFunc of spans. -/
theorem sort_any (g n c : Nat) (l : List Span) (w : World) (hn : l.length = n) (hl : n < 4611686018427387904) (hg : g < w.heap.size) (h : SpRow w g l) :
    Calls Tryz.prog 80 #[.slice (some ⟨g, 0, none⟩) n c, .func (.func 81) #[] #[]] w fun e w' => e = .returned (.tuple #[]) ∧ ∃ l' : List Span, l'.Perm l ∧ SortedL l' ∧ SpRow w' g l' ∧ Kp (fun k => k = g) w w' := by
  have eg : ∀ args w, (callFunc 81 args).run Tryz.prog w = .ok (.enter 81 args) w := enters_of Tryz.func81 (by kernel_rfl) rfl
  have hH := row_holds h
  have hcon := AnyQ.slices_SortFunc sortSp 2 Tryz.isAgg103 Tryz.sizeOf103 sc (fun _ => rfl) (fun x v hv => by simp [sc] at hv; rcases hv with rfl | rfl <;> rfl) (fun x y => Lib.compareInt x.1 y.1) swoLo 81 #[] g 0 c l.toArray w eg (cmp_lays g 0 _ w) hH hg (by simpa [hn] using hl)
  change Calls Tryz.prog 80 _ _ _ at hcon
  have hsz : l.toArray.size = n := by simpa using hn
  rw [hsz] at hcon
  refine hcon.mono ?_
  rintro e w' ⟨rfl, d', m, os, hp, hs, rfl⟩
  have hd : d'.size = n := by rw [hp.1]; simpa using hn
  have hperm : d'.toList.Perm l := by
    have := hp.2.2
    rw [Array.extract_eq_self_of_le (by omega), Array.extract_eq_self_of_le (by omega)] at this
    simpa using this
  refine ⟨rfl, d'.toList, hperm, fun i j hij hj => ?_, ?_, kp_sort⟩
  · have hj2 : j < d'.size := by simpa using hj
    have := hs i j (Nat.zero_le _) hij (by omega)
    rw [ltLo] at this
    have e1 := arr_sp d'.toList (i := i) (by simp; omega)
    have e2 := arr_sp d'.toList (i := j) (by simpa using hj)
    simp only [Array.toArray_toList] at e1 e2
    rw [e1, e2] at this
    simpa using this
  · apply holds_row
    unfold sortWorldK
    refine holdsK_grow _ _ _ _ g 0 d' (by simp [putRowK, putRow, mapBlock, Sort.ahead]; exact hg) ?_
    exact holdsK_putRowK _ _ _ g 0 l.toArray d' (holdsK_ahead _ _ _ _ _ _ _ hH) (by rw [hsz, hd])

theorem sort_none (p : Option Addr) (c : Nat) (w : World) : Calls Tryz.prog 80 #[.slice p 0 c, .func (.func 81) #[] #[]] w fun e w' => e = .returned (.tuple #[]) ∧ w' = w := by
  have h := AnyF.slices_SortFunc_none sortSp p c (.func (.func 81) #[] #[]) w
  exact h

end Go.Proofs.YtilncacmkfohdaaGreat.Pf
