/- The region of the law that counts. -/
import Derived.Test.YtpngnmogjmdmhaaPv11
namespace Go.Proofs.Ytpngnmogjmdmhaa
open Go.RowKit
set_option linter.unusedVariables false

def pv14_0 (gd gl p mm : Nat) (oa : Option Addr) (oc : Nat) : Nat → Value → Prop
  | 0, v => v = .bool true
  | 1, v => v = .bool false
  | 2, v => v = .bool false
  | 3, v => v = .int .i64 0
  | 4, v => v = .pointer (some ⟨gd, 0, none⟩)
  | 5, v => v = .pointer (some ⟨p, 0, none⟩)
  | 6, v => v = .int .i64 (mm : Int)
  | 7, v => v = .int .i64 0
  | 8, v => v = .pointer (some ⟨gl, 0, none⟩)
  | 9, v => v = .pointer (some ⟨gl, 3, none⟩)
  | 10, v => v = .slice oa mm oc
  | 11, v => v = .int .i64 (mm : Int)
  | 12, v => v = .bool false
  | 13, v => v = .bool false
  | _, _ => True

set_option maxRecDepth 100000 in
set_option maxHeartbeats 4000000 in
theorem plays_r14_0 {FF : Act → World → Prop} {w : World} {base gd gl p q m g6 : Nat} {x z : Dx} {y u : RDx} {d e : Dsk} {cu : Array Value} {c0 c1 c2 c5 c9 c10 c11 c12 c13 c14 c15 c16 c17 c18 c19 c20 c21 c22 c23 c24 c25 c26 c27 c28 c29 c30 c31 c32 c33 c34 c35 c36 c37 c38 c39 c40 c41 c42 c43 c44 c45 c46 c47 c48 c49 c50 c51 c52 c53 c54 c55 c56 c57 c58 c59 c60 c61 c62 c63 c64 c65 c66 c67 c68 c69 c70 c71 c72 c73 c74 c75 c76 c77 c78 c79 c80 c81 c82 c83 c84 c85 c86 c87 c88 c89 c90 c91 c92 c93 c94 c95 c96 c97 c98 c99 c100 c101 c102 c103 c104 c105 c106 c107 c108 c109 c110 c111 c112 : Value}
    (hPV : Hid (PV base w gd gl p q x z y u d e m)) (hLR : Hid (LR w gd gl 0 p q (y.cells d) cu))
    (hQ : Hid (∀ (d73 d74 d75 d76 d77 d78 d79 d80 d81 d82 d83 d84 d85 : Value) (w' : World), Below w.heap.size w w' → FF ⟨#[c0, c1, c2, .pointer (some ⟨gd, 0, none⟩), .pointer (some ⟨gl, 0, none⟩), c5, .pointer (some ⟨g6, 0, none⟩), .int .i64 0, .bool true, c9, c10, c11, c12, c13, c14, c15, c16, c17, c18, c19, c20, c21, c22, c23, c24, c25, c26, c27, c28, c29, c30, c31, c32, c33, c34, c35, c36, c37, c38, c39, c40, c41, c42, c43, c44, c45, c46, c47, c48, c49, c50, c51, c52, c53, c54, c55, c56, c57, c58, c59, c60, c61, c62, c63, c64, c65, c66, c67, c68, c69, c70, c71, c72, d73, d74, d75, d76, d77, d78, d79, d80, d81, d82, d83, d84, d85, .bool false, c87, c88, c89, c90, c91, c92, c93, c94, c95, c96, c97, c98, c99, c100, c101, c102, c103, c104, c105, c106, c107, c108, c109, c110, c111, c112], []⟩ w')) :
    Code.wp Try.prog ((Try.f4.body.bind (regAt 14)).getD .skip) (Nrm FF) ⟨#[c0, c1, c2, .pointer (some ⟨gd, 0, none⟩), .pointer (some ⟨gl, 0, none⟩), c5, .pointer (some ⟨g6, 0, none⟩), .int .i64 0, .bool true, c9, c10, c11, c12, c13, c14, c15, c16, c17, c18, c19, c20, c21, c22, c23, c24, c25, c26, c27, c28, c29, c30, c31, c32, c33, c34, c35, c36, c37, c38, c39, c40, c41, c42, c43, c44, c45, c46, c47, c48, c49, c50, c51, c52, c53, c54, c55, c56, c57, c58, c59, c60, c61, c62, c63, c64, c65, c66, c67, c68, c69, c70, c71, c72, c73, c74, c75, c76, c77, c78, c79, c80, c81, c82, c83, c84, c85, c86, c87, c88, c89, c90, c91, c92, c93, c94, c95, c96, c97, c98, c99, c100, c101, c102, c103, c104, c105, c106, c107, c108, c109, c110, c111, c112], []⟩ w := by
  obtain ⟨mm, hmm⟩ : ∃ mm, mm = d.ops.length := ⟨_, rfl⟩
  have hm : Hid (d.ops.length = mm) := hmm.symm
  have hl : y.its.length = mm := by rw [hmm, ← hPV.out.r1.ops, List.length_map]
  obtain ⟨oa, hoa⟩ : ∃ oa, oa = y.oa := ⟨_, rfl⟩
  obtain ⟨oc, hoc⟩ : ∃ oc, oc = y.oc := ⟨_, rfl⟩
  have hcell : Hid (∀ w1, Below w.heap.size w w1 → w1.cell? ⟨gl, 3, none⟩ = some (.slice oa mm oc)) := hid (fun w1 hb => stayb hb (by
    have := hLR.out.l1 3 (.slice y.oa y.its.length y.oc) rfl
    rw [hl, ← hoa, ← hoc] at this
    exact this))
  clear hmm hl hoa hoc
  conv => arg 2; whnf
  refine wp_region_alv (Wd := fun _ _ w1 => Below w.heap.size w w1) (Pv := pv14_0 gd gl p mm oa oc) (by kernel_rfl) (by kernel_rfl) ?_ ?_ ?_
  · intro L V hL
    exact drew_below w
  · refine ⟨?_, ?_, ?_, ?_, ?_, ?_, ?_, ?_, ?_, ?_, ?_, ?_, ?_, ?_, trivial⟩
    · intro ac w1 L hL hup hcl hW hdd hk Kx hK
      refine yes (want_n rfl) (wp_mv _ rfl _ (get_keep (hk 8 (no_dst (by kernel_rfl))) rfl) ?_)
      exact hK _ _ (fun _ => rfl) (fun _ _ _ _ _ _ => hW)
    · intro ac w1 L hL hup hcl hW hdd hk Kx hK
      have e73 : ac.tmps[73]?.getD undef = (.bool true : Value) := slot (hdd 0 _ 73 rfl rfl rfl)
      refine yes (want_n rfl) ?_
      have hv := hid (hK (.bool false) w1 (fun _ => rfl) (fun _ _ _ _ _ _ => hW))
      clear hK hW hL hup hdd hk hcl
      go_simp
      exact kq hv.out rfl
    · intro ac w1 L hL hup hcl hW hdd hk Kx hK
      refine yes (want_n rfl) (wp_mv _ rfl _ (hdd 1 _ 74 rfl rfl rfl) ?_)
      exact hK _ _ (fun _ => rfl) (fun _ _ _ _ _ _ => hW)
    · intro ac w1 L hL hup hcl hW hdd hk Kx hK
      refine yes (want_g rfl rfl (hdd 2 _ 75 rfl rfl rfl)) (wp_mv _ rfl _ (get_keep (hk 7 (no_dst (by kernel_rfl))) rfl) ?_)
      exact hK _ _ (fun _ => rfl) (fun _ _ _ _ _ _ => hW)
    · intro ac w1 L hL hup hcl hW hdd hk Kx hK
      have e3 : ac.tmps[3]?.getD undef = (.pointer (some ⟨gd, 0, none⟩) : Value) := slot (get_keep (hk 3 (no_dst (by kernel_rfl))) rfl)
      have e76 : ac.tmps[76]?.getD undef = (.int .i64 0 : Value) := slot (hdd 3 _ 76 rfl rfl rfl)
      refine yes (want_g rfl rfl (hdd 2 _ 75 rfl rfl rfl)) ?_
      have hv := hid (hK (.pointer (some ⟨gd, 0, none⟩)) w1 (fun _ => rfl) (fun _ _ _ _ _ _ => hW))
      clear hK hW hL hup hdd hk hcl
      go_simp
      exact kq hv.out rfl
    · intro ac w1 L hL hup hcl hW hdd hk Kx hK
      have e77 : ac.tmps[77]?.getD undef = (.pointer (some ⟨gd, 0, none⟩) : Value) := slot (hdd 4 _ 77 rfl rfl rfl)
      have x0 := stayb hW hLR.out.d1
      refine yes (want_g rfl rfl (hdd 2 _ 75 rfl rfl rfl)) ?_
      have hv := hid (hK (.pointer (some ⟨p, 0, none⟩)) w1 (fun _ => rfl) (fun _ _ _ _ _ _ => hW))
      clear hK hW hL hup hdd hk hcl
      go_simp
      exact kq hv.out rfl
    · intro ac w1 L hL hup hcl hW hdd hk Kx hK
      refine yes (want_g rfl rfl (hdd 2 _ 75 rfl rfl rfl)) ?_
      refine wp_callv 16 _ _ rfl _ Try.func16 rfl rfl _ (args1 (hdd 5 _ 78 rfl rfl rfl)) (pending_any p x d w1 (hPV.out.s1.below hW).is) ?_
      rintro e w' ⟨rfl, rfl⟩
      rw [hm.out]
      exact ⟨_, rfl, hK _ _ (fun _ => rfl) (fun _ _ _ _ _ _ => hW)⟩
    · intro ac w1 L hL hup hcl hW hdd hk Kx hK
      refine yes (want_g rfl rfl (hdd 2 _ 75 rfl rfl rfl)) (wp_mv _ rfl _ (get_keep (hk 7 (no_dst (by kernel_rfl))) rfl) ?_)
      exact hK _ _ (fun _ => rfl) (fun _ _ _ _ _ _ => hW)
    · intro ac w1 L hL hup hcl hW hdd hk Kx hK
      have e4 : ac.tmps[4]?.getD undef = (.pointer (some ⟨gl, 0, none⟩) : Value) := slot (get_keep (hk 4 (no_dst (by kernel_rfl))) rfl)
      have e80 : ac.tmps[80]?.getD undef = (.int .i64 0 : Value) := slot (hdd 7 _ 80 rfl rfl rfl)
      refine yes (want_g rfl rfl (hdd 2 _ 75 rfl rfl rfl)) ?_
      have hv := hid (hK (.pointer (some ⟨gl, 0, none⟩)) w1 (fun _ => rfl) (fun _ _ _ _ _ _ => hW))
      clear hK hW hL hup hdd hk hcl
      go_simp
      exact kq hv.out rfl
    · intro ac w1 L hL hup hcl hW hdd hk Kx hK
      have e81 : ac.tmps[81]?.getD undef = (.pointer (some ⟨gl, 0, none⟩) : Value) := slot (hdd 8 _ 81 rfl rfl rfl)
      refine yes (want_g rfl rfl (hdd 2 _ 75 rfl rfl rfl)) ?_
      have hv := hid (hK (.pointer (some ⟨gl, 3, none⟩)) w1 (fun _ => rfl) (fun _ _ _ _ _ _ => hW))
      clear hK hW hL hup hdd hk hcl
      go_simp
      exact kq hv.out rfl
    · intro ac w1 L hL hup hcl hW hdd hk Kx hK
      have e82 : ac.tmps[82]?.getD undef = (.pointer (some ⟨gl, 3, none⟩) : Value) := slot (hdd 9 _ 82 rfl rfl rfl)
      have x0 := hcell.out w1 hW
      refine yes (want_g rfl rfl (hdd 2 _ 75 rfl rfl rfl)) ?_
      have hv := hid (hK (.slice oa mm oc) w1 (fun _ => rfl) (fun _ _ _ _ _ _ => hW))
      clear hK hW hL hup hdd hk hcl
      go_simp
      exact kq hv.out rfl
    · intro ac w1 L hL hup hcl hW hdd hk Kx hK
      have e83 : ac.tmps[83]?.getD undef = (.slice oa mm oc : Value) := slot (hdd 10 _ 83 rfl rfl rfl)
      refine yes (want_g rfl rfl (hdd 2 _ 75 rfl rfl rfl)) ?_
      have hv := hid (hK (.int .i64 (mm : Int)) w1 (fun _ => rfl) (fun _ _ _ _ _ _ => hW))
      clear hK hW hL hup hdd hk hcl
      go_simp
      exact kq hv.out rfl
    · intro ac w1 L hL hup hcl hW hdd hk Kx hK
      have e79 : ac.tmps[79]?.getD undef = (.int .i64 (mm : Int) : Value) := slot (hdd 6 _ 79 rfl rfl rfl)
      have e84 : ac.tmps[84]?.getD undef = (.int .i64 (mm : Int) : Value) := slot (hdd 11 _ 84 rfl rfl rfl)
      refine yes (want_g rfl rfl (hdd 2 _ 75 rfl rfl rfl)) ?_
      have hv := hid (hK (.bool false) w1 (fun _ => rfl) (fun _ _ _ _ _ _ => hW))
      clear hK hW hL hup hdd hk hcl
      go_simp
      exact kq hv.out rfl
    · intro ac w1 L hL hup hcl hW hdd hk Kx hK
      refine yes (want_n rfl) (wp_pick _ _ _ rfl false _ (hdd 2 _ 75 rfl rfl rfl) (hdd 12 _ 85 rfl rfl rfl) ?_)
      exact hK _ _ (fun _ => rfl) (fun _ _ _ _ _ _ => hW)
  · intro ac w1 hdf hsz hkp hval hW
    obtain ⟨L, hall, hW⟩ := hW
    obtain ⟨ff, hf⟩ : ∃ ff, ff = fun d => ac.tmps.getD d undef := ⟨_, rfl⟩
    have h7 : ff 86 = .bool false := by rw [hf]; exact hval 13 _ 86 rfl rfl
    have hfa := act_filled hdf hsz hkp
    rw [← hf] at hfa
    rw [hfa]
    clear hdf hsz hkp hval hfa hf
    clear ac
    simp only [fillAll, List.set_cons_zero, List.set_cons_succ, h7]
    exact hQ.out _ _ _ _ _ _ _ _ _ _ _ _ _ w1 hW

def pv14_1 (gd gl p mm : Nat) (oa : Option Addr) (oc : Nat) : Nat → Value → Prop
  | 0, v => v = .bool true
  | 1, v => v = .bool false
  | 2, v => v = .bool false
  | 3, v => v = .int .i64 1
  | 4, v => v = .pointer (some ⟨gd, 1, none⟩)
  | 5, v => v = .pointer (some ⟨p, 0, none⟩)
  | 6, v => v = .int .i64 (mm : Int)
  | 7, v => v = .int .i64 1
  | 8, v => v = .pointer (some ⟨gl, 8, none⟩)
  | 9, v => v = .pointer (some ⟨gl, 11, none⟩)
  | 10, v => v = .slice oa mm oc
  | 11, v => v = .int .i64 (mm : Int)
  | 12, v => v = .bool false
  | 13, v => v = .bool false
  | _, _ => True

set_option maxRecDepth 100000 in
set_option maxHeartbeats 4000000 in
theorem plays_r14_1 {FF : Act → World → Prop} {w : World} {base gd gl p q m g6 : Nat} {x z : Dx} {y u : RDx} {d e : Dsk} {cu : Array Value} {c0 c1 c2 c5 c9 c10 c11 c12 c13 c14 c15 c16 c17 c18 c19 c20 c21 c22 c23 c24 c25 c26 c27 c28 c29 c30 c31 c32 c33 c34 c35 c36 c37 c38 c39 c40 c41 c42 c43 c44 c45 c46 c47 c48 c49 c50 c51 c52 c53 c54 c55 c56 c57 c58 c59 c60 c61 c62 c63 c64 c65 c66 c67 c68 c69 c70 c71 c72 c73 c74 c75 c76 c77 c78 c79 c80 c81 c82 c83 c84 c85 c86 c87 c88 c89 c90 c91 c92 c93 c94 c95 c96 c97 c98 c99 c100 c101 c102 c103 c104 c105 c106 c107 c108 c109 c110 c111 c112 : Value}
    (hPV : Hid (PV base w gd gl p q x z y u d e m)) (hLR : Hid (LR w gd gl 1 p q (y.cells d) cu))
    (hQ : Hid (∀ (d73 d74 d75 d76 d77 d78 d79 d80 d81 d82 d83 d84 d85 : Value) (w' : World), Below w.heap.size w w' → FF ⟨#[c0, c1, c2, .pointer (some ⟨gd, 0, none⟩), .pointer (some ⟨gl, 0, none⟩), c5, .pointer (some ⟨g6, 0, none⟩), .int .i64 1, .bool true, c9, c10, c11, c12, c13, c14, c15, c16, c17, c18, c19, c20, c21, c22, c23, c24, c25, c26, c27, c28, c29, c30, c31, c32, c33, c34, c35, c36, c37, c38, c39, c40, c41, c42, c43, c44, c45, c46, c47, c48, c49, c50, c51, c52, c53, c54, c55, c56, c57, c58, c59, c60, c61, c62, c63, c64, c65, c66, c67, c68, c69, c70, c71, c72, d73, d74, d75, d76, d77, d78, d79, d80, d81, d82, d83, d84, d85, .bool false, c87, c88, c89, c90, c91, c92, c93, c94, c95, c96, c97, c98, c99, c100, c101, c102, c103, c104, c105, c106, c107, c108, c109, c110, c111, c112], []⟩ w')) :
    Code.wp Try.prog ((Try.f4.body.bind (regAt 14)).getD .skip) (Nrm FF) ⟨#[c0, c1, c2, .pointer (some ⟨gd, 0, none⟩), .pointer (some ⟨gl, 0, none⟩), c5, .pointer (some ⟨g6, 0, none⟩), .int .i64 1, .bool true, c9, c10, c11, c12, c13, c14, c15, c16, c17, c18, c19, c20, c21, c22, c23, c24, c25, c26, c27, c28, c29, c30, c31, c32, c33, c34, c35, c36, c37, c38, c39, c40, c41, c42, c43, c44, c45, c46, c47, c48, c49, c50, c51, c52, c53, c54, c55, c56, c57, c58, c59, c60, c61, c62, c63, c64, c65, c66, c67, c68, c69, c70, c71, c72, c73, c74, c75, c76, c77, c78, c79, c80, c81, c82, c83, c84, c85, c86, c87, c88, c89, c90, c91, c92, c93, c94, c95, c96, c97, c98, c99, c100, c101, c102, c103, c104, c105, c106, c107, c108, c109, c110, c111, c112], []⟩ w := by
  obtain ⟨mm, hmm⟩ : ∃ mm, mm = d.ops.length := ⟨_, rfl⟩
  have hm : Hid (d.ops.length = mm) := hmm.symm
  have hl : y.its.length = mm := by rw [hmm, ← hPV.out.r1.ops, List.length_map]
  obtain ⟨oa, hoa⟩ : ∃ oa, oa = y.oa := ⟨_, rfl⟩
  obtain ⟨oc, hoc⟩ : ∃ oc, oc = y.oc := ⟨_, rfl⟩
  have hcell : Hid (∀ w1, Below w.heap.size w w1 → w1.cell? ⟨gl, 11, none⟩ = some (.slice oa mm oc)) := hid (fun w1 hb => stayb hb (by
    have := hLR.out.l1 3 (.slice y.oa y.its.length y.oc) rfl
    rw [hl, ← hoa, ← hoc] at this
    exact this))
  clear hmm hl hoa hoc
  conv => arg 2; whnf
  refine wp_region_alv (Wd := fun _ _ w1 => Below w.heap.size w w1) (Pv := pv14_1 gd gl p mm oa oc) (by kernel_rfl) (by kernel_rfl) ?_ ?_ ?_
  · intro L V hL
    exact drew_below w
  · refine ⟨?_, ?_, ?_, ?_, ?_, ?_, ?_, ?_, ?_, ?_, ?_, ?_, ?_, ?_, trivial⟩
    · intro ac w1 L hL hup hcl hW hdd hk Kx hK
      refine yes (want_n rfl) (wp_mv _ rfl _ (get_keep (hk 8 (no_dst (by kernel_rfl))) rfl) ?_)
      exact hK _ _ (fun _ => rfl) (fun _ _ _ _ _ _ => hW)
    · intro ac w1 L hL hup hcl hW hdd hk Kx hK
      have e73 : ac.tmps[73]?.getD undef = (.bool true : Value) := slot (hdd 0 _ 73 rfl rfl rfl)
      refine yes (want_n rfl) ?_
      have hv := hid (hK (.bool false) w1 (fun _ => rfl) (fun _ _ _ _ _ _ => hW))
      clear hK hW hL hup hdd hk hcl
      go_simp
      exact kq hv.out rfl
    · intro ac w1 L hL hup hcl hW hdd hk Kx hK
      refine yes (want_n rfl) (wp_mv _ rfl _ (hdd 1 _ 74 rfl rfl rfl) ?_)
      exact hK _ _ (fun _ => rfl) (fun _ _ _ _ _ _ => hW)
    · intro ac w1 L hL hup hcl hW hdd hk Kx hK
      refine yes (want_g rfl rfl (hdd 2 _ 75 rfl rfl rfl)) (wp_mv _ rfl _ (get_keep (hk 7 (no_dst (by kernel_rfl))) rfl) ?_)
      exact hK _ _ (fun _ => rfl) (fun _ _ _ _ _ _ => hW)
    · intro ac w1 L hL hup hcl hW hdd hk Kx hK
      have e3 : ac.tmps[3]?.getD undef = (.pointer (some ⟨gd, 0, none⟩) : Value) := slot (get_keep (hk 3 (no_dst (by kernel_rfl))) rfl)
      have e76 : ac.tmps[76]?.getD undef = (.int .i64 1 : Value) := slot (hdd 3 _ 76 rfl rfl rfl)
      refine yes (want_g rfl rfl (hdd 2 _ 75 rfl rfl rfl)) ?_
      have hv := hid (hK (.pointer (some ⟨gd, 1, none⟩)) w1 (fun _ => rfl) (fun _ _ _ _ _ _ => hW))
      clear hK hW hL hup hdd hk hcl
      go_simp
      exact kq hv.out rfl
    · intro ac w1 L hL hup hcl hW hdd hk Kx hK
      have e77 : ac.tmps[77]?.getD undef = (.pointer (some ⟨gd, 1, none⟩) : Value) := slot (hdd 4 _ 77 rfl rfl rfl)
      have x0 := stayb hW hLR.out.d1
      refine yes (want_g rfl rfl (hdd 2 _ 75 rfl rfl rfl)) ?_
      have hv := hid (hK (.pointer (some ⟨p, 0, none⟩)) w1 (fun _ => rfl) (fun _ _ _ _ _ _ => hW))
      clear hK hW hL hup hdd hk hcl
      go_simp
      exact kq hv.out rfl
    · intro ac w1 L hL hup hcl hW hdd hk Kx hK
      refine yes (want_g rfl rfl (hdd 2 _ 75 rfl rfl rfl)) ?_
      refine wp_callv 16 _ _ rfl _ Try.func16 rfl rfl _ (args1 (hdd 5 _ 78 rfl rfl rfl)) (pending_any p x d w1 (hPV.out.s1.below hW).is) ?_
      rintro e w' ⟨rfl, rfl⟩
      rw [hm.out]
      exact ⟨_, rfl, hK _ _ (fun _ => rfl) (fun _ _ _ _ _ _ => hW)⟩
    · intro ac w1 L hL hup hcl hW hdd hk Kx hK
      refine yes (want_g rfl rfl (hdd 2 _ 75 rfl rfl rfl)) (wp_mv _ rfl _ (get_keep (hk 7 (no_dst (by kernel_rfl))) rfl) ?_)
      exact hK _ _ (fun _ => rfl) (fun _ _ _ _ _ _ => hW)
    · intro ac w1 L hL hup hcl hW hdd hk Kx hK
      have e4 : ac.tmps[4]?.getD undef = (.pointer (some ⟨gl, 0, none⟩) : Value) := slot (get_keep (hk 4 (no_dst (by kernel_rfl))) rfl)
      have e80 : ac.tmps[80]?.getD undef = (.int .i64 1 : Value) := slot (hdd 7 _ 80 rfl rfl rfl)
      refine yes (want_g rfl rfl (hdd 2 _ 75 rfl rfl rfl)) ?_
      have hv := hid (hK (.pointer (some ⟨gl, 8, none⟩)) w1 (fun _ => rfl) (fun _ _ _ _ _ _ => hW))
      clear hK hW hL hup hdd hk hcl
      go_simp
      exact kq hv.out rfl
    · intro ac w1 L hL hup hcl hW hdd hk Kx hK
      have e81 : ac.tmps[81]?.getD undef = (.pointer (some ⟨gl, 8, none⟩) : Value) := slot (hdd 8 _ 81 rfl rfl rfl)
      refine yes (want_g rfl rfl (hdd 2 _ 75 rfl rfl rfl)) ?_
      have hv := hid (hK (.pointer (some ⟨gl, 11, none⟩)) w1 (fun _ => rfl) (fun _ _ _ _ _ _ => hW))
      clear hK hW hL hup hdd hk hcl
      go_simp
      exact kq hv.out rfl
    · intro ac w1 L hL hup hcl hW hdd hk Kx hK
      have e82 : ac.tmps[82]?.getD undef = (.pointer (some ⟨gl, 11, none⟩) : Value) := slot (hdd 9 _ 82 rfl rfl rfl)
      have x0 := hcell.out w1 hW
      refine yes (want_g rfl rfl (hdd 2 _ 75 rfl rfl rfl)) ?_
      have hv := hid (hK (.slice oa mm oc) w1 (fun _ => rfl) (fun _ _ _ _ _ _ => hW))
      clear hK hW hL hup hdd hk hcl
      go_simp
      exact kq hv.out rfl
    · intro ac w1 L hL hup hcl hW hdd hk Kx hK
      have e83 : ac.tmps[83]?.getD undef = (.slice oa mm oc : Value) := slot (hdd 10 _ 83 rfl rfl rfl)
      refine yes (want_g rfl rfl (hdd 2 _ 75 rfl rfl rfl)) ?_
      have hv := hid (hK (.int .i64 (mm : Int)) w1 (fun _ => rfl) (fun _ _ _ _ _ _ => hW))
      clear hK hW hL hup hdd hk hcl
      go_simp
      exact kq hv.out rfl
    · intro ac w1 L hL hup hcl hW hdd hk Kx hK
      have e79 : ac.tmps[79]?.getD undef = (.int .i64 (mm : Int) : Value) := slot (hdd 6 _ 79 rfl rfl rfl)
      have e84 : ac.tmps[84]?.getD undef = (.int .i64 (mm : Int) : Value) := slot (hdd 11 _ 84 rfl rfl rfl)
      refine yes (want_g rfl rfl (hdd 2 _ 75 rfl rfl rfl)) ?_
      have hv := hid (hK (.bool false) w1 (fun _ => rfl) (fun _ _ _ _ _ _ => hW))
      clear hK hW hL hup hdd hk hcl
      go_simp
      exact kq hv.out rfl
    · intro ac w1 L hL hup hcl hW hdd hk Kx hK
      refine yes (want_n rfl) (wp_pick _ _ _ rfl false _ (hdd 2 _ 75 rfl rfl rfl) (hdd 12 _ 85 rfl rfl rfl) ?_)
      exact hK _ _ (fun _ => rfl) (fun _ _ _ _ _ _ => hW)
  · intro ac w1 hdf hsz hkp hval hW
    obtain ⟨L, hall, hW⟩ := hW
    obtain ⟨ff, hf⟩ : ∃ ff, ff = fun d => ac.tmps.getD d undef := ⟨_, rfl⟩
    have h7 : ff 86 = .bool false := by rw [hf]; exact hval 13 _ 86 rfl rfl
    have hfa := act_filled hdf hsz hkp
    rw [← hf] at hfa
    rw [hfa]
    clear hdf hsz hkp hval hfa hf
    clear ac
    simp only [fillAll, List.set_cons_zero, List.set_cons_succ, h7]
    exact hQ.out _ _ _ _ _ _ _ _ _ _ _ _ _ w1 hW

end Go.Proofs.Ytpngnmogjmdmhaa
