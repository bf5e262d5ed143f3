/- The two drawn regions of eachRun. -/
import Derived.Test.YtomdghodbkhkaaaGreatDoorEvn
import Derived.Test.YtomdghodbkhkaaaGreatDoorRun
namespace Go.Proofs.YtomdghodbkhkaaaGreatDoor
open Go.RowKit
set_option linter.unusedVariables false
set_option linter.unusedSimpArgs false

theorem wp_callk {Q : Exit → Act → World → Prop} {a : Act} {w : World} {K : Act → World → Prop} {o : Oper} (f : FuncId) (x : Operand) (args : Array Operand) (tys : Array TypeId) (cap : Value)
    (ho : o.op = .call { callee := .value x, args := args, argTypes := tys }) (hx : a.eval x = .func (.func f) #[] #[cap]) (fn : Func) (hf : Tryz.prog.funcs[f]? = some fn) (hn : (fn.name == "runtime.NumGoroutine") = false) (hbd : fn.body.isNone = false) (v : Value) (hv : args.map a.eval = #[v]) {post : Ending → World → Prop} (hc : Calls Tryz.prog f #[v, cap] w post)
    (hK : ∀ e w', post e w' → ∃ v, e = .returned v ∧ K (a.put o.dst v) w') : Oper.wp Tryz.prog o a w K Q := by
  have he : (execOp a.eval o).run Tryz.prog w = .ok (.enter f #[v, cap]) w := by
    have hn' : ¬ fn.name = "runtime.NumGoroutine" := by simpa using hn
    have hbd' : ¬ fn.body = none := by intro e; rw [e] at hbd; cases hbd
    simp [execOp, ho, resolve, invoke, hx, Deferred.ofValue, callFunc, hf, hn', hbd', hv]
  unfold Oper.wp
  rw [he, Oper.upon_enter]
  refine hc.mono ?_
  intro e w' h
  obtain ⟨v, rfl, hk⟩ := hK e w' h
  exact hk

/-- While a run is told to the closure: C is the call. -/
def EWd (w : World) (p : Nat) (T : List (List UInt8)) (C : Nat) (L : Nat → Bool) (w1 : World) : Prop :=
  (L C = false → Below w.heap.size w w1) ∧ (L C = true → ∃ v', TBlk 57 w1 p v' ∧ SOwn w1 (p + 1) v' T) ∧ Kp (fun k => p ≤ k) w w1

def ev8 (b o k c p j e x y s : Nat) : Nat → Value → Prop
  | 0, v => v = .func (.func 24) #[] #[ptr p]
  | 1, v => v = .slice (some ⟨b, o, none⟩) k c
  | 2, v => v = .int .i64 (j : Int)
  | 3, v => v = .pointer (some ⟨b, o + j, none⟩)
  | 4, v => v = .int .i64 (x : Int)
  | 5, v => v = .slice (some ⟨b, o, none⟩) k c
  | 6, v => v = .int .i64 (e : Int)
  | 7, v => v = .pointer (some ⟨b, o + e, none⟩)
  | 8, v => v = .int .i64 (y : Int)
  | 9, v => v = .int .i64 (s : Int)
  | 10, v => v = .agg #[.int .i64 (x : Int), .int .i64 (y : Int), .int .i64 (s : Int)]
  | _, _ => True

set_option maxRecDepth 100000 in
set_option maxHeartbeats 4000000 in
theorem each_r8 {FF : Act → World → Prop} {w : World} {b o k c p j e x y s : Nat} {v : Value} {T : List (List UInt8)} {c2 c3 c7 c8 c9 c10 c11 c12 c13 c14 c15 c16 c17 c18 c19 c20 c21 c22 c23 c24 c25 c26 c27 c28 c29 c30 c31 c32 c33 c34 c35 c36 c37 c38 c39 c40 c41 c42 c43 c44 c45 c46 c47 c48 c49 c50 c51 c52 c53 c54 c55 c56 c57 c58 c59 c60 c61 c62 : Value}
    (hcx : Hid (∀ w1, Kp (fun k => p ≤ k) w w1 → w1.cell? ⟨b, o + j, none⟩ = some (.int .i64 (x : Int)))) (hcy : Hid (∀ w1, Kp (fun k => p ≤ k) w w1 → w1.cell? ⟨b, o + e, none⟩ = some (.int .i64 (y : Int)))) (hjk : j < k) (hek : e < k) (hok : okR (x, y, s)) (hT : T.length ≤ 40) (ht : Hid (Tb w)) (hp : Hid (TBlk 57 w p v)) (ho : Hid (SOwn w (p + 1) v T))
    (hQ : Hid (∀ (d39 d40 d41 d42 d43 d44 d45 d46 d47 d48 d49 d50 v' : Value) (w' : World), TBlk 57 w' p v' → SOwn w' (p + 1) v' (T ++ [textR (x, y, s)]) → Kp (fun k => p ≤ k) w w' → FF ⟨#[.slice (some ⟨b, o, none⟩) k c, .func (.func 24) #[] #[ptr p], c2, c3, .int .i64 (j : Int), .int .i64 (e : Int), .int .i64 (s : Int), c7, c8, c9, c10, c11, c12, c13, c14, c15, c16, c17, c18, c19, c20, c21, c22, c23, c24, c25, c26, c27, c28, c29, c30, c31, c32, c33, c34, c35, c36, c37, c38, d39, d40, d41, d42, d43, d44, d45, d46, d47, d48, d49, d50, c51, c52, c53, c54, c55, c56, c57, c58, c59, c60, c61, c62], []⟩ w')) :
    Code.wp Tryz.prog ((Tryz.f23.body.bind (regAt 8)).getD .skip) (Nrm FF) ⟨#[.slice (some ⟨b, o, none⟩) k c, .func (.func 24) #[] #[ptr p], c2, c3, .int .i64 (j : Int), .int .i64 (e : Int), .int .i64 (s : Int), c7, c8, c9, c10, c11, c12, c13, c14, c15, c16, c17, c18, c19, c20, c21, c22, c23, c24, c25, c26, c27, c28, c29, c30, c31, c32, c33, c34, c35, c36, c37, c38, c39, c40, c41, c42, c43, c44, c45, c46, c47, c48, c49, c50, c51, c52, c53, c54, c55, c56, c57, c58, c59, c60, c61, c62], []⟩ w := by
  conv => arg 2; whnf
  refine wp_region_alv (Wd := fun L _ w1 => EWd w p (T ++ [textR (x, y, s)]) 11 L w1) (Pv := ev8 b o k c p j e x y s) (by kernel_rfl) (by kernel_rfl) ?_ ?_ ?_
  · intro L V hL
    exact ⟨fun _ => drew_below w, fun h => (by rw [hL 11] at h; cases h), Kp.of_below (drew_below w)⟩
  · refine ⟨?_, ?_, ?_, ?_, ?_, ?_, ?_, ?_, ?_, ?_, ?_, ?_, trivial⟩
    · intro ac w1 L hL hup hcl hW hdd hk Kx hK
      refine yes (want_n rfl) (wp_mv _ rfl _ (get_keep (hk 1 (no_dst (by kernel_rfl))) rfl) ?_)
      exact hK _ _ (fun _ => rfl) (fun L2 V2 i1 i2 i3 i4 => ⟨fun h => hW.1 (by rw [← i2 11 (by decide)]; exact h), fun h => hW.2.1 (by rw [← i2 11 (by decide)]; exact h), hW.2.2⟩)
    · intro ac w1 L hL hup hcl hW hdd hk Kx hK
      refine yes (want_n rfl) (wp_mv _ rfl _ (get_keep (hk 0 (no_dst (by kernel_rfl))) rfl) ?_)
      exact hK _ _ (fun _ => rfl) (fun L2 V2 i1 i2 i3 i4 => ⟨fun h => hW.1 (by rw [← i2 11 (by decide)]; exact h), fun h => hW.2.1 (by rw [← i2 11 (by decide)]; exact h), hW.2.2⟩)
    · intro ac w1 L hL hup hcl hW hdd hk Kx hK
      refine yes (want_n rfl) (wp_mv _ rfl _ (get_keep (hk 4 (no_dst (by kernel_rfl))) rfl) ?_)
      exact hK _ _ (fun _ => rfl) (fun L2 V2 i1 i2 i3 i4 => ⟨fun h => hW.1 (by rw [← i2 11 (by decide)]; exact h), fun h => hW.2.1 (by rw [← i2 11 (by decide)]; exact h), hW.2.2⟩)
    · intro ac w1 L hL hup hcl hW hdd hk Kx hK
      have e40 : ac.tmps[40]?.getD undef = (.slice (some ⟨b, o, none⟩) k c : Value) := slot (hdd 1 _ 40 rfl rfl rfl)
      have e41 : ac.tmps[41]?.getD undef = (.int .i64 (j : Int) : Value) := slot (hdd 2 _ 41 rfl rfl rfl)
      refine yes (want_n rfl) ?_
      have hv := hid (hK (.pointer (some ⟨b, o + j, none⟩)) w1 (fun _ => rfl) (fun L2 V2 i1 i2 i3 i4 => ⟨fun h => hW.1 (by rw [← i2 11 (by decide)]; exact h), fun h => hW.2.1 (by rw [← i2 11 (by decide)]; exact h), hW.2.2⟩))
      clear hK hW hL hup hdd hk hcl
      go_simp
      exact kq hv.out rfl
    · intro ac w1 L hL hup hcl hW hdd hk Kx hK
      have e42 : ac.tmps[42]?.getD undef = (.pointer (some ⟨b, o + j, none⟩) : Value) := slot (hdd 3 _ 42 rfl rfl rfl)
      have z0 := hcx.out w1 hW.2.2
      refine yes (want_n rfl) ?_
      have hv := hid (hK (.int .i64 (x : Int)) w1 (fun _ => rfl) (fun L2 V2 i1 i2 i3 i4 => ⟨fun h => hW.1 (by rw [← i2 11 (by decide)]; exact h), fun h => hW.2.1 (by rw [← i2 11 (by decide)]; exact h), hW.2.2⟩))
      clear hK hW hL hup hdd hk hcl
      go_simp
      exact kq hv.out rfl
    · intro ac w1 L hL hup hcl hW hdd hk Kx hK
      refine yes (want_n rfl) (wp_mv _ rfl _ (get_keep (hk 0 (no_dst (by kernel_rfl))) rfl) ?_)
      exact hK _ _ (fun _ => rfl) (fun L2 V2 i1 i2 i3 i4 => ⟨fun h => hW.1 (by rw [← i2 11 (by decide)]; exact h), fun h => hW.2.1 (by rw [← i2 11 (by decide)]; exact h), hW.2.2⟩)
    · intro ac w1 L hL hup hcl hW hdd hk Kx hK
      refine yes (want_n rfl) (wp_mv _ rfl _ (get_keep (hk 5 (no_dst (by kernel_rfl))) rfl) ?_)
      exact hK _ _ (fun _ => rfl) (fun L2 V2 i1 i2 i3 i4 => ⟨fun h => hW.1 (by rw [← i2 11 (by decide)]; exact h), fun h => hW.2.1 (by rw [← i2 11 (by decide)]; exact h), hW.2.2⟩)
    · intro ac w1 L hL hup hcl hW hdd hk Kx hK
      have e44 : ac.tmps[44]?.getD undef = (.slice (some ⟨b, o, none⟩) k c : Value) := slot (hdd 5 _ 44 rfl rfl rfl)
      have e45 : ac.tmps[45]?.getD undef = (.int .i64 (e : Int) : Value) := slot (hdd 6 _ 45 rfl rfl rfl)
      refine yes (want_n rfl) ?_
      have hv := hid (hK (.pointer (some ⟨b, o + e, none⟩)) w1 (fun _ => rfl) (fun L2 V2 i1 i2 i3 i4 => ⟨fun h => hW.1 (by rw [← i2 11 (by decide)]; exact h), fun h => hW.2.1 (by rw [← i2 11 (by decide)]; exact h), hW.2.2⟩))
      clear hK hW hL hup hdd hk hcl
      go_simp
      exact kq hv.out rfl
    · intro ac w1 L hL hup hcl hW hdd hk Kx hK
      have e46 : ac.tmps[46]?.getD undef = (.pointer (some ⟨b, o + e, none⟩) : Value) := slot (hdd 7 _ 46 rfl rfl rfl)
      have z0 := hcy.out w1 hW.2.2
      refine yes (want_n rfl) ?_
      have hv := hid (hK (.int .i64 (y : Int)) w1 (fun _ => rfl) (fun L2 V2 i1 i2 i3 i4 => ⟨fun h => hW.1 (by rw [← i2 11 (by decide)]; exact h), fun h => hW.2.1 (by rw [← i2 11 (by decide)]; exact h), hW.2.2⟩))
      clear hK hW hL hup hdd hk hcl
      go_simp
      exact kq hv.out rfl
    · intro ac w1 L hL hup hcl hW hdd hk Kx hK
      refine yes (want_n rfl) (wp_mv _ rfl _ (get_keep (hk 6 (no_dst (by kernel_rfl))) rfl) ?_)
      exact hK _ _ (fun _ => rfl) (fun L2 V2 i1 i2 i3 i4 => ⟨fun h => hW.1 (by rw [← i2 11 (by decide)]; exact h), fun h => hW.2.1 (by rw [← i2 11 (by decide)]; exact h), hW.2.2⟩)
    · intro ac w1 L hL hup hcl hW hdd hk Kx hK
      have e43 : ac.tmps[43]?.getD undef = (.int .i64 (x : Int) : Value) := slot (hdd 4 _ 43 rfl rfl rfl)
      have e47 : ac.tmps[47]?.getD undef = (.int .i64 (y : Int) : Value) := slot (hdd 8 _ 47 rfl rfl rfl)
      have e48 : ac.tmps[48]?.getD undef = (.int .i64 (s : Int) : Value) := slot (hdd 9 _ 48 rfl rfl rfl)
      refine yes (want_n rfl) ?_
      have hv := hid (hK (.agg #[.int .i64 (x : Int), .int .i64 (y : Int), .int .i64 (s : Int)]) w1 (fun _ => rfl) (fun L2 V2 i1 i2 i3 i4 => ⟨fun h => hW.1 (by rw [← i2 11 (by decide)]; exact h), fun h => hW.2.1 (by rw [← i2 11 (by decide)]; exact h), hW.2.2⟩))
      clear hK hW hL hup hdd hk hcl
      go_simp
      exact kq hv.out rfl
    · intro ac w1 L hL hup hcl hW hdd hk Kx hK
      have hb := hW.1 hL
      refine yes (want_n rfl) (wp_callk 24 (.tmp 39) _ _ (ptr p) rfl (hdd 0 _ 39 rfl rfl rfl) _ Tryz.func24 rfl rfl _ (args1 (hdd 10 _ 49 rfl rfl rfl)) (tell_any p (x, y, s) v T hok w1 (ht.out.below hb) (hp.out.below hb) (owns_below ho.out hb) hT) ?_)
      rintro e w' ⟨rfl, v', t', o', k'⟩
      refine ⟨_, rfl, hK _ _ (fun _ => trivial) (fun L2 V2 i1 i2 i3 i4 => ⟨fun h => absurd (h.symm.trans i1) (by decide), fun _ => ⟨v', t', o'⟩, hW.2.2.trans k'⟩)⟩
  · intro ac w1 hdf hsz hkp hval hW
    obtain ⟨L, hall, hW⟩ := hW
    obtain ⟨v', t', o'⟩ := hW.2.1 (hall 11 (by decide))
    obtain ⟨ff, hf⟩ : ∃ ff, ff = fun d => ac.tmps.getD d undef := ⟨_, rfl⟩
    have hfa := act_filled hdf hsz hkp
    rw [← hf] at hfa
    rw [hfa]
    clear hdf hsz hkp hval hfa hf
    clear ac
    simp only [fillAll, List.set_cons_zero, List.set_cons_succ]
    exact hQ.out _ _ _ _ _ _ _ _ _ _ _ _ v' w1 t' o' hW.2.2

def ev10 (b o k c p j x : Nat) : Nat → Value → Prop
  | 0, v => v = .func (.func 24) #[] #[ptr p]
  | 1, v => v = .slice (some ⟨b, o, none⟩) k c
  | 2, v => v = .int .i64 (j : Int)
  | 3, v => v = .pointer (some ⟨b, o + j, none⟩)
  | 4, v => v = .int .i64 (x : Int)
  | 5, v => v = .slice (some ⟨b, o, none⟩) k c
  | 6, v => v = .int .i64 (j : Int)
  | 7, v => v = .pointer (some ⟨b, o + j, none⟩)
  | 8, v => v = .int .i64 (x : Int)
  | 9, v => v = .agg #[.int .i64 (x : Int), .int .i64 (x : Int), .int .i64 1]
  | _, _ => True

set_option maxRecDepth 100000 in
set_option maxHeartbeats 4000000 in
theorem each_r10 {FF : Act → World → Prop} {w : World} {b o k c p j x : Nat} {v : Value} {T : List (List UInt8)} {c2 c3 c5 c6 c7 c8 c9 c10 c11 c12 c13 c14 c15 c16 c17 c18 c19 c20 c21 c22 c23 c24 c25 c26 c27 c28 c29 c30 c31 c32 c33 c34 c35 c36 c37 c38 c39 c40 c41 c42 c43 c44 c45 c46 c47 c48 c49 c50 c51 c52 c53 c54 c55 c56 c57 c58 c59 c60 c61 c62 : Value}
    (hcx : Hid (∀ w1, Kp (fun k => p ≤ k) w w1 → w1.cell? ⟨b, o + j, none⟩ = some (.int .i64 (x : Int)))) (hjk : j < k) (hok : okR (x, x, 1)) (hT : T.length ≤ 40) (ht : Hid (Tb w)) (hp : Hid (TBlk 57 w p v)) (ho : Hid (SOwn w (p + 1) v T))
    (hQ : Hid (∀ (d52 d53 d54 d55 d56 d57 d58 d59 d60 d61 d62 v' : Value) (w' : World), TBlk 57 w' p v' → SOwn w' (p + 1) v' (T ++ [textR (x, x, 1)]) → Kp (fun k => p ≤ k) w w' → FF ⟨#[.slice (some ⟨b, o, none⟩) k c, .func (.func 24) #[] #[ptr p], c2, c3, .int .i64 (j : Int), c5, c6, c7, c8, c9, c10, c11, c12, c13, c14, c15, c16, c17, c18, c19, c20, c21, c22, c23, c24, c25, c26, c27, c28, c29, c30, c31, c32, c33, c34, c35, c36, c37, c38, c39, c40, c41, c42, c43, c44, c45, c46, c47, c48, c49, c50, c51, d52, d53, d54, d55, d56, d57, d58, d59, d60, d61, d62], []⟩ w')) :
    Code.wp Tryz.prog ((Tryz.f23.body.bind (regAt 10)).getD .skip) (Nrm FF) ⟨#[.slice (some ⟨b, o, none⟩) k c, .func (.func 24) #[] #[ptr p], c2, c3, .int .i64 (j : Int), c5, c6, c7, c8, c9, c10, c11, c12, c13, c14, c15, c16, c17, c18, c19, c20, c21, c22, c23, c24, c25, c26, c27, c28, c29, c30, c31, c32, c33, c34, c35, c36, c37, c38, c39, c40, c41, c42, c43, c44, c45, c46, c47, c48, c49, c50, c51, c52, c53, c54, c55, c56, c57, c58, c59, c60, c61, c62], []⟩ w := by
  conv => arg 2; whnf
  refine wp_region_alv (Wd := fun L _ w1 => EWd w p (T ++ [textR (x, x, 1)]) 10 L w1) (Pv := ev10 b o k c p j x) (by kernel_rfl) (by kernel_rfl) ?_ ?_ ?_
  · intro L V hL
    exact ⟨fun _ => drew_below w, fun h => (by rw [hL 10] at h; cases h), Kp.of_below (drew_below w)⟩
  · refine ⟨?_, ?_, ?_, ?_, ?_, ?_, ?_, ?_, ?_, ?_, ?_, trivial⟩
    · intro ac w1 L hL hup hcl hW hdd hk Kx hK
      refine yes (want_n rfl) (wp_mv _ rfl _ (get_keep (hk 1 (no_dst (by kernel_rfl))) rfl) ?_)
      exact hK _ _ (fun _ => rfl) (fun L2 V2 i1 i2 i3 i4 => ⟨fun h => hW.1 (by rw [← i2 10 (by decide)]; exact h), fun h => hW.2.1 (by rw [← i2 10 (by decide)]; exact h), hW.2.2⟩)
    · intro ac w1 L hL hup hcl hW hdd hk Kx hK
      refine yes (want_n rfl) (wp_mv _ rfl _ (get_keep (hk 0 (no_dst (by kernel_rfl))) rfl) ?_)
      exact hK _ _ (fun _ => rfl) (fun L2 V2 i1 i2 i3 i4 => ⟨fun h => hW.1 (by rw [← i2 10 (by decide)]; exact h), fun h => hW.2.1 (by rw [← i2 10 (by decide)]; exact h), hW.2.2⟩)
    · intro ac w1 L hL hup hcl hW hdd hk Kx hK
      refine yes (want_n rfl) (wp_mv _ rfl _ (get_keep (hk 4 (no_dst (by kernel_rfl))) rfl) ?_)
      exact hK _ _ (fun _ => rfl) (fun L2 V2 i1 i2 i3 i4 => ⟨fun h => hW.1 (by rw [← i2 10 (by decide)]; exact h), fun h => hW.2.1 (by rw [← i2 10 (by decide)]; exact h), hW.2.2⟩)
    · intro ac w1 L hL hup hcl hW hdd hk Kx hK
      have e53 : ac.tmps[53]?.getD undef = (.slice (some ⟨b, o, none⟩) k c : Value) := slot (hdd 1 _ 53 rfl rfl rfl)
      have e54 : ac.tmps[54]?.getD undef = (.int .i64 (j : Int) : Value) := slot (hdd 2 _ 54 rfl rfl rfl)
      refine yes (want_n rfl) ?_
      have hv := hid (hK (.pointer (some ⟨b, o + j, none⟩)) w1 (fun _ => rfl) (fun L2 V2 i1 i2 i3 i4 => ⟨fun h => hW.1 (by rw [← i2 10 (by decide)]; exact h), fun h => hW.2.1 (by rw [← i2 10 (by decide)]; exact h), hW.2.2⟩))
      clear hK hW hL hup hdd hk hcl
      go_simp
      exact kq hv.out rfl
    · intro ac w1 L hL hup hcl hW hdd hk Kx hK
      have e55 : ac.tmps[55]?.getD undef = (.pointer (some ⟨b, o + j, none⟩) : Value) := slot (hdd 3 _ 55 rfl rfl rfl)
      have z0 := hcx.out w1 hW.2.2
      refine yes (want_n rfl) ?_
      have hv := hid (hK (.int .i64 (x : Int)) w1 (fun _ => rfl) (fun L2 V2 i1 i2 i3 i4 => ⟨fun h => hW.1 (by rw [← i2 10 (by decide)]; exact h), fun h => hW.2.1 (by rw [← i2 10 (by decide)]; exact h), hW.2.2⟩))
      clear hK hW hL hup hdd hk hcl
      go_simp
      exact kq hv.out rfl
    · intro ac w1 L hL hup hcl hW hdd hk Kx hK
      refine yes (want_n rfl) (wp_mv _ rfl _ (get_keep (hk 0 (no_dst (by kernel_rfl))) rfl) ?_)
      exact hK _ _ (fun _ => rfl) (fun L2 V2 i1 i2 i3 i4 => ⟨fun h => hW.1 (by rw [← i2 10 (by decide)]; exact h), fun h => hW.2.1 (by rw [← i2 10 (by decide)]; exact h), hW.2.2⟩)
    · intro ac w1 L hL hup hcl hW hdd hk Kx hK
      refine yes (want_n rfl) (wp_mv _ rfl _ (get_keep (hk 4 (no_dst (by kernel_rfl))) rfl) ?_)
      exact hK _ _ (fun _ => rfl) (fun L2 V2 i1 i2 i3 i4 => ⟨fun h => hW.1 (by rw [← i2 10 (by decide)]; exact h), fun h => hW.2.1 (by rw [← i2 10 (by decide)]; exact h), hW.2.2⟩)
    · intro ac w1 L hL hup hcl hW hdd hk Kx hK
      have e57 : ac.tmps[57]?.getD undef = (.slice (some ⟨b, o, none⟩) k c : Value) := slot (hdd 5 _ 57 rfl rfl rfl)
      have e58 : ac.tmps[58]?.getD undef = (.int .i64 (j : Int) : Value) := slot (hdd 6 _ 58 rfl rfl rfl)
      refine yes (want_n rfl) ?_
      have hv := hid (hK (.pointer (some ⟨b, o + j, none⟩)) w1 (fun _ => rfl) (fun L2 V2 i1 i2 i3 i4 => ⟨fun h => hW.1 (by rw [← i2 10 (by decide)]; exact h), fun h => hW.2.1 (by rw [← i2 10 (by decide)]; exact h), hW.2.2⟩))
      clear hK hW hL hup hdd hk hcl
      go_simp
      exact kq hv.out rfl
    · intro ac w1 L hL hup hcl hW hdd hk Kx hK
      have e59 : ac.tmps[59]?.getD undef = (.pointer (some ⟨b, o + j, none⟩) : Value) := slot (hdd 7 _ 59 rfl rfl rfl)
      have z0 := hcx.out w1 hW.2.2
      refine yes (want_n rfl) ?_
      have hv := hid (hK (.int .i64 (x : Int)) w1 (fun _ => rfl) (fun L2 V2 i1 i2 i3 i4 => ⟨fun h => hW.1 (by rw [← i2 10 (by decide)]; exact h), fun h => hW.2.1 (by rw [← i2 10 (by decide)]; exact h), hW.2.2⟩))
      clear hK hW hL hup hdd hk hcl
      go_simp
      exact kq hv.out rfl
    · intro ac w1 L hL hup hcl hW hdd hk Kx hK
      have e56 : ac.tmps[56]?.getD undef = (.int .i64 (x : Int) : Value) := slot (hdd 4 _ 56 rfl rfl rfl)
      have e60 : ac.tmps[60]?.getD undef = (.int .i64 (x : Int) : Value) := slot (hdd 8 _ 60 rfl rfl rfl)
      refine yes (want_n rfl) ?_
      have hv := hid (hK (.agg #[.int .i64 (x : Int), .int .i64 (x : Int), .int .i64 1]) w1 (fun _ => rfl) (fun L2 V2 i1 i2 i3 i4 => ⟨fun h => hW.1 (by rw [← i2 10 (by decide)]; exact h), fun h => hW.2.1 (by rw [← i2 10 (by decide)]; exact h), hW.2.2⟩))
      clear hK hW hL hup hdd hk hcl
      go_simp
      exact kq hv.out rfl
    · intro ac w1 L hL hup hcl hW hdd hk Kx hK
      have hb := hW.1 hL
      refine yes (want_n rfl) (wp_callk 24 (.tmp 52) _ _ (ptr p) rfl (hdd 0 _ 52 rfl rfl rfl) _ Tryz.func24 rfl rfl _ (args1 (hdd 9 _ 61 rfl rfl rfl)) (tell_any p (x, x, 1) v T hok w1 (ht.out.below hb) (hp.out.below hb) (owns_below ho.out hb) hT) ?_)
      rintro e w' ⟨rfl, v', t', o', k'⟩
      refine ⟨_, rfl, hK _ _ (fun _ => trivial) (fun L2 V2 i1 i2 i3 i4 => ⟨fun h => absurd (h.symm.trans i1) (by decide), fun _ => ⟨v', t', o'⟩, hW.2.2.trans k'⟩)⟩
  · intro ac w1 hdf hsz hkp hval hW
    obtain ⟨L, hall, hW⟩ := hW
    obtain ⟨v', t', o'⟩ := hW.2.1 (hall 10 (by decide))
    obtain ⟨ff, hf⟩ : ∃ ff, ff = fun d => ac.tmps.getD d undef := ⟨_, rfl⟩
    have hfa := act_filled hdf hsz hkp
    rw [← hf] at hfa
    rw [hfa]
    clear hdf hsz hkp hval hfa hf
    clear ac
    simp only [fillAll, List.set_cons_zero, List.set_cons_succ]
    exact hQ.out _ _ _ _ _ _ _ _ _ _ _ v' w1 t' o' hW.2.2
end Go.Proofs.YtomdghodbkhkaaaGreatDoor
