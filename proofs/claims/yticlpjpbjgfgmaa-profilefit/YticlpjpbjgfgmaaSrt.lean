/- slices.SortFunc of spans, by when they begin: as the library's contract names it. -/
import Derived.Shelf.SlSortCmp.NoneTotal
import Derived.Test.YticlpjpbjgfgmaaMem
import Derived.Test.YticlpjpbjgfgmaaPl
namespace Go.Proofs.Yticlpjpbjgfgmaa
open Go.Shelf Go.RowKit Go.Lib Go.Sort
def sortSp_ren : Go.Shelf.Ren := ⟨fun | 6 => 83 | 15 => 87 | 14 => 86 | 28 => 97 | 29 => 98 | 20 => 89 | 21 => 90 | 22 => 91 | 23 => 92 | 24 => 93 | 25 => 94 | 26 => 95 | 27 => 96 | 46 => 99 | 47 => 100 | 48 => 101 | 49 => 102 | 50 => 103 | 57 => 104 | n => n, fun | 22 => 72 | 24 => 93 | 25 => 104 | 3 => 3 | 39 => 95 | 0 => 0 | 53 => 24 | 55 => 117 | 4 => 4 | 46 => 110 | 45 => 109 | 50 => 114 | 5 => 5 | 9 => 9 | 66 => 118 | 70 => 122 | 76 => 124 | 77 => 125 | n => n, fun | n => n⟩
theorem sortSp : Go.Proofs.SlLaysF0.n6 Try.prog sortSp_ren := {
  mixed := by kernel_rfl
  f6 := ⟨Try.f83.name, by decide, Try.func83.trans (congrArg some (by kernel_rfl))⟩
  f14 := ⟨Try.f86.name, by decide, Try.func86.trans (congrArg some (by kernel_rfl))⟩
  f15 := Try.func87.trans (congrArg some (by kernel_rfl))
  f20 := ⟨Try.f89.name, by decide, Try.func89.trans (congrArg some (by kernel_rfl))⟩
  f21 := ⟨Try.f90.name, by decide, Try.func90.trans (congrArg some (by kernel_rfl))⟩
  f22 := ⟨Try.f91.name, by decide, Try.func91.trans (congrArg some (by kernel_rfl))⟩
  f23 := ⟨Try.f92.name, by decide, Try.func92.trans (congrArg some (by kernel_rfl))⟩
  f24 := ⟨Try.f93.name, by decide, Try.func93.trans (congrArg some (by kernel_rfl))⟩
  f25 := ⟨Try.f94.name, by decide, Try.func94.trans (congrArg some (by kernel_rfl))⟩
  f26 := ⟨Try.f95.name, by decide, Try.func95.trans (congrArg some (by kernel_rfl))⟩
  f27 := ⟨Try.f96.name, by decide, Try.func96.trans (congrArg some (by kernel_rfl))⟩
  f28 := Try.func97.trans (congrArg some (by kernel_rfl))
  f29 := Try.func98.trans (congrArg some (by kernel_rfl))
  f46 := ⟨Try.f99.name, by decide, Try.func99.trans (congrArg some (by kernel_rfl))⟩
  f47 := Try.func100.trans (congrArg some (by kernel_rfl))
  f48 := Try.func101.trans (congrArg some (by kernel_rfl))
  f49 := ⟨Try.f102.name, by decide, Try.func102.trans (congrArg some (by kernel_rfl))⟩
  f50 := ⟨Try.f103.name, by decide, Try.func103.trans (congrArg some (by kernel_rfl))⟩
  f57 := ⟨Try.f104.name, by decide, Try.func104.trans (congrArg some (by kernel_rfl))⟩
  t0 := Try.underlying0
  a0 := Try.isAgg0
  z0 := Try.sizeOf0
  v0 := Try.zeroValue0
  t3 := Try.underlying3
  a3 := Try.isAgg3
  z3 := Try.sizeOf3
  v3 := Try.zeroValue3
  t4 := Try.underlying4
  a4 := Try.isAgg4
  z4 := Try.sizeOf4
  v4 := Try.zeroValue4
  t5 := Try.underlying5
  a5 := Try.isAgg5
  z5 := Try.sizeOf5
  v5 := Try.zeroValue5
  t9 := Try.underlying9
  a9 := Try.isAgg9
  z9 := Try.sizeOf9
  v9 := Try.zeroValue9
  t22 := Try.underlying72
  a22 := Try.isAgg72
  z22 := Try.sizeOf72
  v22 := Try.zeroValue72
  t25 := Try.underlying104
  a25 := Try.isAgg104
  z25 := Try.sizeOf104
  v25 := Try.zeroValue104
  t39 := Try.underlying95
  a39 := Try.isAgg95
  z39 := Try.sizeOf95
  v39 := Try.zeroValue95
  t45 := Try.underlying109
  a45 := Try.isAgg109
  z45 := Try.sizeOf109
  v45 := Try.zeroValue109
  t46 := Try.underlying110
  a46 := Try.isAgg110
  z46 := Try.sizeOf110
  v46 := Try.zeroValue110
  t50 := Try.underlying114
  a50 := Try.isAgg114
  z50 := Try.sizeOf114
  v50 := Try.zeroValue114
  t53 := Try.underlying24
  a53 := Try.isAgg24
  z53 := Try.sizeOf24
  v53 := Try.zeroValue24
  t55 := Try.underlying117
  a55 := Try.isAgg117
  z55 := Try.sizeOf117
  v55 := Try.zeroValue117
  t66 := Try.underlying118
  a66 := Try.isAgg118
  z66 := Try.sizeOf118
  v66 := Try.zeroValue118
  t70 := Try.underlying122
  a70 := Try.isAgg122
  z70 := Try.sizeOf122
  v70 := Try.zeroValue122
  t76 := Try.underlying124
  a76 := Try.isAgg124
  z76 := Try.sizeOf124
  v76 := Try.zeroValue124
  t77 := Try.underlying125
  a77 := Try.isAgg125
  z77 := Try.sizeOf125
  v77 := Try.zeroValue125 }

def sc (x : Span) : List Value := [.int .i64 x.1, .int .i64 x.2]

theorem isnan_any (x : Int) (w : World) : Calls Try.prog 88 #[.int .i64 x] w fun e w' => e = .returned (.bool false) ∧ w' = w := by
  go_enter Try.func88, Try.ntmps88
  go_wp2
  go_ret
  exact ⟨rfl, rfl⟩

theorem compare_any (x y : Int) (w : World) : Calls Try.prog 85 #[.int .i64 x, .int .i64 y] w fun e w' => e = .returned (.int .i64 (Lib.compareInt x y)) ∧ w' = w := by
  by_cases h1 : x < y
  · have hf := hid (show Lib.compareInt x y = -1 by simp [Lib.compareInt, h1])
    have d1 : decide (x < y) = true := decide_eq_true h1
    go_enter Try.func85, Try.ntmps85
    go_wp2_with (go_at_call 88; refine (isnan_any _ _).mono ?_; rintro e w' ⟨rfl, rfl⟩)
    go_ret
    rw [hf.out]; exact ⟨rfl, rfl⟩
  · have d1 : decide (x < y) = false := decide_eq_false h1
    by_cases h2 : y < x
    · have hf := hid (show Lib.compareInt x y = 1 by simp [Lib.compareInt, h1, h2])
      have d2 : decide (y < x) = true := decide_eq_true h2
      go_enter Try.func85, Try.ntmps85
      go_wp2_with (go_at_call 88; refine (isnan_any _ _).mono ?_; rintro e w' ⟨rfl, rfl⟩)
      go_ret
      rw [hf.out]; exact ⟨rfl, rfl⟩
    · have hf := hid (show Lib.compareInt x y = 0 by simp [Lib.compareInt, h1, h2])
      have d2 : decide (y < x) = false := decide_eq_false h2
      go_enter Try.func85, Try.ntmps85
      go_wp2_with (go_at_call 88; refine (isnan_any _ _).mono ?_; rintro e w' ⟨rfl, rfl⟩)
      go_ret
      rw [hf.out]; exact ⟨rfl, rfl⟩

theorem cmp_any (x y : Span) (W : World) : Calls Try.prog 84 #[.agg #[.int .i64 x.1, .int .i64 x.2], .agg #[.int .i64 y.1, .int .i64 y.2]] W fun e w' => e = .returned (.int .i64 (Lib.compareInt x.1 y.1)) ∧ ∃ q os', w' = grow (W.drewN q) os' := by
  have hcon := fun W' => compare_any x.1 y.1 W'
  generalize Lib.compareInt x.1 y.1 = r at hcon ⊢
  go_enter Try.func84, Try.ntmps84
  go_wp2_with (go_at_call 85; refine (hcon _).mono ?_; rintro e w' ⟨rfl, rfl⟩)
  go_ret
  exact ⟨rfl, 0, _, by rw [alloc_eq_grow, alloc_eq_grow, grow_grow]; rfl⟩

theorem cmp_lays (blk off size : Nat) (w : World) : CmpLays Try.prog 84 #[] sc 2 (fun x y => Lib.compareInt x.1 y.1) blk off size w := fun _ _ _ _ x y => cmp_any x y _

theorem ltLo (x y : Span) : ltOf (fun x y : Span => Lib.compareInt x.1 y.1) x y = decide (x.1 < y.1) := by
  unfold ltOf Lib.compareInt
  by_cases h1 : x.1 < y.1
  · simp [h1]
  · by_cases h2 : y.1 < x.1 <;> simp [h1, h2]

theorem swoLo : SWO (ltOf fun x y : Span => Lib.compareInt x.1 y.1) where
  irrefl x := by rw [ltLo]; simp
  trans x y z h1 h2 := by rw [ltLo] at *; simp at *; omega
  ntrans x y z h1 h2 := by rw [ltLo] at *; simp at *; omega

/-- The spans of l in a row. -/
def SpRow (w : World) (g : Nat) (l : List Span) : Prop := ∀ i, i < l.length → (w.cell? ⟨g, i * 2, none⟩ = some (.int .i64 (sp l i).1) ∧ w.cell? ⟨g, i * 2 + 1, none⟩ = some (.int .i64 (sp l i).2)) ∧ w.frozen? ⟨g, i * 2, none⟩ = false ∧ w.frozen? ⟨g, i * 2 + 1, none⟩ = false

theorem arr_sp (l : List Span) {i : Nat} (h : i < l.length) : l.toArray[i]! = sp l i := by
  rw [getElem!_pos l.toArray i (by simpa using h)]
  simp [sp, List.getD, h]

theorem row_holds {w : World} {g : Nat} {l : List Span} (h : SpRow w g l) : HoldsK sc 2 w g 0 l.toArray := by
  intro j hj
  rw [size_flatK] at hj
  have hj2 : j < l.length * 2 := by simpa using hj
  have hi : j / 2 < l.length := by omega
  rw [get_flatK _ _ _ j hj, arr_sp l hi, Nat.zero_add]
  obtain ⟨⟨h1, h2⟩, h3, h4⟩ := h (j / 2) hi
  rcases Nat.mod_two_eq_zero_or_one j with e | e
  · rw [e]
    have : j / 2 * 2 = j := by omega
    rw [this] at h1 h3
    exact ⟨h1, h3⟩
  · rw [e]
    have : j / 2 * 2 + 1 = j := by omega
    rw [this] at h2 h4
    exact ⟨h2, h4⟩

theorem holds_row {w : World} {g : Nat} {d : Array Span} (h : HoldsK sc 2 w g 0 d) : SpRow w g d.toList := by
  intro i hi
  have hd : i < d.size := by simpa using hi
  have h0 := h.cell (i := i) (c := 0) hd (by omega)
  have h1 := h.cell (i := i) (c := 1) hd (by omega)
  have e : d[i]! = sp d.toList i := by
    have := arr_sp d.toList hi
    simpa using this
  rw [e] at h0 h1
  simp only [Nat.zero_add, Nat.add_zero] at h0 h1
  exact ⟨⟨h0.1, h1.1⟩, h0.2, h1.2⟩

theorem kp_sort {w : World} {g n : Nat} {d : Array Span} {os : Array Obj} : Kp (fun k => k = g) w (sortWorldK sc 2 w g 0 n d os) := by
  unfold sortWorldK
  have hs : (putRowK sc 2 (Sort.ahead w n) g 0 d).heap.size = w.heap.size := by simp [putRowK, putRow, mapBlock, Sort.ahead]
  refine ⟨rfl, rfl, rfl, by rw [size_grow, hs]; omega, fun k hk hn => ?_⟩
  rw [heap_grow_old _ _ (by rw [hs]; exact hk)]
  unfold putRowK putRow mapBlock
  simp only [Sort.ahead]
  rw [Array.getElem?_modify]
  rw [if_neg (by omega)]

/-- slices.SortFunc of spans. -/
theorem sort_any (g n c : Nat) (l : List Span) (w : World) (hn : l.length = n) (hl : n < 4611686018427387904) (hg : g < w.heap.size) (h : SpRow w g l) :
    Calls Try.prog 83 #[.slice (some ⟨g, 0, none⟩) n c, .func (.func 84) #[] #[]] w fun e w' => e = .returned (.tuple #[]) ∧ ∃ l' : List Span, l'.Perm l ∧ SortedL l' ∧ SpRow w' g l' ∧ Kp (fun k => k = g) w w' := by
  have eg : ∀ args w, (callFunc 84 args).run Try.prog w = .ok (.enter 84 args) w := enters_of Try.func84 (by kernel_rfl) rfl
  have hH := row_holds h
  have hcon := AnyQ.slices_SortFunc sortSp 2 Try.isAgg93 Try.sizeOf93 sc (fun _ => rfl) (fun x v hv => by simp [sc] at hv; rcases hv with rfl | rfl <;> rfl) (fun x y => Lib.compareInt x.1 y.1) swoLo 84 #[] g 0 c l.toArray w eg (cmp_lays g 0 _ w) hH hg (by simpa [hn] using hl)
  change Calls Try.prog 83 _ _ _ at hcon
  have hsz : l.toArray.size = n := by simpa using hn
  rw [hsz] at hcon
  refine hcon.mono ?_
  rintro e w' ⟨rfl, d', m, os, hp, hs, rfl⟩
  have hd : d'.size = n := by rw [hp.1]; simpa using hn
  have hperm : d'.toList.Perm l := by
    have := hp.2.2
    rw [Array.extract_eq_self_of_le (by omega), Array.extract_eq_self_of_le (by omega)] at this
    simpa using this
  refine ⟨rfl, d'.toList, hperm, fun i j hij hj => ?_, ?_, kp_sort⟩
  · have hj2 : j < d'.size := by simpa using hj
    have := hs i j (Nat.zero_le _) hij (by omega)
    rw [ltLo] at this
    have e1 := arr_sp d'.toList (i := i) (by simp; omega)
    have e2 := arr_sp d'.toList (i := j) (by simpa using hj)
    simp only [Array.toArray_toList] at e1 e2
    rw [e1, e2] at this
    simpa using this
  · apply holds_row
    unfold sortWorldK
    refine holdsK_grow _ _ _ _ g 0 d' (by simp [putRowK, putRow, mapBlock, Sort.ahead]; exact hg) ?_
    exact holdsK_putRowK _ _ _ g 0 l.toArray d' (holdsK_ahead _ _ _ _ _ _ _ hH) (by rw [hsz, hd])

theorem sort_none (p : Option Addr) (c : Nat) (w : World) : Calls Try.prog 83 #[.slice p 0 c, .func (.func 84) #[] #[]] w fun e w' => e = .returned (.tuple #[]) ∧ w' = w := by
  have h := AnyF.slices_SortFunc_none sortSp p c (.func (.func 84) #[] #[]) w
  exact h

end Go.Proofs.Yticlpjpbjgfgmaa
