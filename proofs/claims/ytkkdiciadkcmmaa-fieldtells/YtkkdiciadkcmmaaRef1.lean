/- What the document's octets (Number, Add, AddText, Text) answer. -/
import Derived.Test.YtkkdiciadkcmmaaOct
namespace Go.Proofs.Ytkkdiciadkcmmaa
open Go.RowKit

/-- 'append(v, s...)', v the call's own, s a text. -/
theorem app_string (w : World) (base : Nat) (v : Value) (l : List UInt8) (s : ByteArray) (hown : Own w base v l) (hb : l.length + s.size ≤ 140737489000000) (hbase : base ≤ w.heap.size) :
    ∃ v' w', (Builtin.append_ #[22, 9] 22 #[v, .string s]).run Try.prog w = .ok v' w' ∧ Own w' base v' (l ++ s.data.toList) ∧ Below base w w' := by
  obtain ⟨i0, hi, hz0, hz1, hz2⟩ := info_parts info5
  have hsz : s.data.toList.length = s.size := by simp
  have hcells : Lib.strCells s = s.data.toList.map B := rfl
  rcases hown.2 with ⟨rfl, hn⟩ | ⟨g, cap, cur, rfl, hbg, hg, hnc, hcm, hcs, htake⟩
  · have hl0 : l = [] := List.eq_nil_of_length_eq_zero hn
    subst hl0
    by_cases hm : s.size = 0
    · obtain rfl : s = ByteArray.empty := ByteArray.ext (Array.eq_empty_of_size_eq_zero hm)
      refine ⟨.slice none 0 0, w, ?_, by simpa using Own.nil w base, Below.refl _ _⟩
      simp [Builtin.append_, run_underlying Try.underlying22, run_underlying Try.underlying9, sizeOf, typeInfo, hi, Builtin.lenOf, Builtin.firstCells]
    · have hr := run_append_nil_string (P := Try.prog) w 22 9 22 5 i0 (.int .u8 0) Try.underlying22 Try.underlying9 hi hz0 s (by omega) (by simp at hb; omega) (by rw [hz2]; simp at hb; omega)
      have hgr := own_grown w base [] s.data.toList 0 (by simpa using hb) hbase
      simp only [List.length_nil, Nat.zero_add, List.nil_append, List.map_nil, Array.empty_append, hsz] at hgr ⊢
      have e1 : (s.data.map fun b => Value.int .u8 b.toNat) = (s.data.toList.map B).toArray := by
        apply Array.ext'
        rw [Array.toList_map]
        rfl
      rw [e1] at hr
      exact ⟨_, _, hr, hgr.1, hgr.2⟩
  · by_cases hroom : l.length + s.size ≤ cap
    · have hr := Lib.run_append_room_string (P := Try.prog) w 22 9 22 5 i0 Try.underlying22 Try.underlying9 hi hz1 g l.length cap cur hg s hroom (by omega)
      rw [hcells] at hr
      have hgr := Own.setRow (l := l) (m := s.data.toList) hbg hg (by rw [hsz]; exact hroom) hcm (by simpa using hcs) (by simpa using htake)
      rw [hsz] at hgr
      exact ⟨_, _, hr, hgr.1, hgr.2⟩
    · have holds : ∀ j u, (l.map B)[j]? = some u → w.cell? ((⟨g, 0, none⟩ : Addr).add j) = some u := hown.cells (g := g) rfl
      have hr := Lib.run_append_grow_string (P := Try.prog) w 22 9 22 5 i0 (.int .u8 0) Try.underlying22 Try.underlying9 hi hz0 ⟨g, 0, none⟩ l.length cap (l.map B) (by simp [hz1]) holds s (by omega) (by omega) (by rw [hz2, Nat.mul_one]; exact fits _ _ (by omega) hb)
      have hgr := own_grown w base l s.data.toList cap (by rw [hsz]; exact hb) hbase
      rw [hsz] at hgr
      rw [hcells] at hr
      exact ⟨_, _, hr, hgr.1, hgr.2⟩

theorem wpList_app_string (w : World) {ops : Array Oper} {rest : List Oper} {o : Oper} {a : Act} {Q : Exit → Act → World → Prop} (hgd : o.guard = none) (s x : Operand)
    (ho : o.op = .call { callee := .builtin .append, args := #[s, x], argTypes := #[22, 9] }) (hty : o.type = 22)
    (base : Nat) (v : Value) (l : List UInt8) (t : ByteArray) (hs : a.eval s = v) (hown : Own w base v l) (hx : a.eval x = .string t)
    (hb : l.length + t.size ≤ 140737489000000) (hbase : base ≤ w.heap.size)
    (h : ∀ v' w', Own w' base v' (l ++ t.data.toList) → Below base w w' → wpList Try.prog ops Q rest (a.put o.dst v') w') : wpList Try.prog ops Q (o :: rest) a w := by
  obtain ⟨v', w', hrun, h1, h2⟩ := app_string w base v l t hown hb hbase
  refine wpList_plain hgd fun K hK => ?_
  unfold Oper.wp
  simp [execOp, ho, hty, resolve, invoke, builtin, hs, hx, hrun, Result.andThen]
  exact hK _ _ (h v' w' h1 h2)

theorem refnum_no (a : Option Addr) (len cap : Nat) (p : Int) (n : Nat) (w : World) (hlen : len ≤ 140737488355328) (hn : n ≤ 8) (h : ¬ (0 ≤ p ∧ p + n ≤ len)) :
    Calls Try.prog 61 #[.slice a len cap, .int .i64 p, .int .i64 n] w fun e w' => e = .returned (.tuple #[.int .u64 0, .bool false]) ∧ w' = w := by
  by_cases h0 : p < 0
  · clear h
    go_enter Try.func61, Try.ntmps61
    go_wp2
    go_ret2
    exact ⟨rfl, rfl⟩
  · by_cases h1 : len < n
    · have h2 : (len : Int) < n := by omega
      clear h
      go_enter Try.func61, Try.ntmps61
      go_wp2
      go_ret2
      exact ⟨rfl, rfl⟩
    · have h2 : (len : Int) - n < p := by omega
      have h3 : ¬ (len : Int) < n := by omega
      clear h
      go_enter Try.func61, Try.ntmps61
      go_wp2
      go_ret2
      exact ⟨rfl, rfl⟩

theorem num_step' (l : List UInt8) (p k : Nat) (h : p + k < l.length) (hk : k < 8) :
    IntKind.u64.wrap (IntKind.u64.wrap (256 * (numOf ((l.drop p).take k) : Int)) + IntKind.u64.wrap ((l[p + k]'h).toNat : Int)) = (numOf ((l.drop p).take (k + 1)) : Int) := by
  have h1 := numOf_lt ((l.drop p).take k)
  have h2 : 256 ^ ((l.drop p).take k).length ≤ 256 ^ 7 := Nat.pow_le_pow_right (by omega) (by simp; omega)
  have h3 := (l[p + k]'h).toNat_lt
  rw [take_snoc (l.drop p) k (by simp; omega), numOf_snoc]
  simp only [List.getElem_drop, IntKind.wrap_u64]
  omega

theorem refnum_yes (b o cap : Nat) (l : List UInt8) (p n : Nat) (w : World) (hlen : l.length ≤ 140737488355328) (hn : n ≤ 8) (h : p + n ≤ l.length)
    (hc : ∀ i (h : i < l.length), w.cell? ⟨b, o + i, none⟩ = some (.int .u8 (l[i].toNat : Int))) :
    Calls Try.prog 61 #[.slice (some ⟨b, o, none⟩) l.length cap, .int .i64 p, .int .i64 n] w fun e w' => e = .returned (.tuple #[.int .u64 (numOf ((l.drop p).take n) : Int), .bool true]) ∧ w' = w := by
  have h2 : ¬ (l.length : Int) < n := by omega
  have h3 : ¬ (l.length : Int) - n < p := by omega
  go_enter Try.func61, Try.ntmps61
  go_wp2
  go_loop [8, 9] (fun v i => ∃ k : Nat, k ≤ n ∧ i = .int .i64 k ∧ v = .int .u64 (numOf ((l.drop p).take k) : Int)) (fun _ i => n - (intOf i).toNat)
  case atStart => exact ⟨0, Nat.zero_le _, rfl, rfl⟩
  case round =>
    obtain ⟨k, hk, rfl, rfl⟩ := hrel
    by_cases hlt : k < n
    · have hcx := hc (p + k) (by omega)
      go_wp2
      go_round
      case rel => exact ⟨k + 1, by omega, by go_num, by rw [num_step' l p k (by omega) (by omega)]⟩
      case measure => simp [intOf]; omega
    · have hkn : k = n := by omega
      subst hkn
      go_wp2
      go_ret2
      exact ⟨rfl, rfl⟩

theorem refnum_any (a : Option Addr) (cap len : Nat) (l : List UInt8) (p : Int) (n : Nat) (w : World) (hl : l.length = len) (hlen : len ≤ 140737488355328) (hn : n ≤ 8) (hn0 : 0 < n) (hat : At w a l) :
    Calls Try.prog 61 #[.slice a len cap, .int .i64 p, .int .i64 n] w fun e w' => e = .returned (.tuple #[.int .u64 (rdV l p n), .bool (rdB l p n)]) ∧ w' = w := by
  subst hl
  by_cases h : 0 ≤ p ∧ p + n ≤ l.length
  · obtain ⟨b, o, rfl, hc⟩ := hat (by intro e; subst e; simp at h; omega)
    obtain ⟨q, rfl⟩ : ∃ q : Nat, p = q := ⟨p.toNat, by omega⟩
    have e1 : rdV l q n = (numOf ((l.drop q).take n) : Int) := by unfold rdV; rw [if_pos h]; simp
    have e2 : rdB l q n = true := by unfold rdB; exact decide_eq_true h
    rw [e1, e2]
    exact refnum_yes b o cap l q n w hlen hn (by omega) hc
  · have e1 : rdV l p n = 0 := by unfold rdV; rw [if_neg h]
    have e2 : rdB l p n = false := by unfold rdB; exact decide_eq_false h
    rw [e1, e2]
    exact refnum_no a l.length cap p n w hlen (by omega) h

/-- The bytes of v, lowest first. -/
def low : Nat → Nat → List UInt8
  | 0, _ => []
  | n + 1, v => low n v ++ [UInt8.ofNat (v / 256 ^ n)]

theorem low_length : ∀ n v, (low n v).length = n
  | 0, _ => rfl
  | n + 1, v => by simp [low, low_length n]

theorem low_get : ∀ (n v i : Nat) (h : i < n), (low n v)[i]'(by rw [low_length]; exact h) = UInt8.ofNat (v / 256 ^ i)
  | n + 1, v, i, h => by
    simp only [low]
    by_cases hi : i < n
    · rw [List.getElem_append_left (by rw [low_length]; exact hi), low_get n v i hi]
    · have : i = n := by omega
      subst this
      rw [List.getElem_append_right (by rw [low_length]; omega)]
      simp [low_length]

theorem be_low (n v k : Nat) (h : k < n) : (be n v).take (k + 1) = (be n v).take k ++ [(low n v)[n - 1 - k]'(by rw [low_length]; omega)] := by
  rw [take_snoc (be n v) k (by rw [be_length]; exact h), be_get n v k h, low_get n v (n - 1 - k) (by omega)]

theorem lit_byte (V : Nat) : #[Value.int .u8 ((V : Int) % 256)] = ([UInt8.ofNat V].map B).toArray := by simp [B]

theorem lit_one (x : UInt8) : #[Value.int .u8 (x.toNat : Int)] = ([x].map B).toArray := by simp [B]

theorem be_back (n v r : Nat) (h : r < n) : (be n v).take (n - r) = (be n v).take (n - (r + 1)) ++ [(low n v)[r]'(by rw [low_length]; omega)] := by
  have := be_low n v (n - (r + 1)) (by omega)
  rw [show n - r = n - (r + 1) + 1 by omega, this]
  congr 3
  omega

theorem div_step (V v k : Nat) (h : V = v / 256 ^ k) : (V : Int) / 256 = ((v / 256 ^ (k + 1) : Nat) : Int) := by
  rw [Nat.pow_succ, ← Nat.div_div_eq_div_mul, ← h]; rfl

set_option maxHeartbeats 400000 in
theorem refadd_any (a : Option Addr) (cap len n v : Nat) (l : List UInt8) (w : World) (hl : l.length = len) (hlen : len ≤ 140737488355328) (hn : n ≤ 8) (hn0 : 0 < n) (hv : v < 18446744073709551616) (hat : At w a l) :
    Calls Try.prog 38 #[.slice a len cap, .int .u64 v, .int .i64 n] w fun e w' => ∃ r, e = .returned r ∧ Own w' w.heap.size r (l ++ be n v) ∧ Below w.heap.size w w' := by
  go_enter Try.func38, Try.ntmps38
  go_wp2
  go_loopw [7, 1, 8] (fun lv vv i wr => ∃ k : Nat, k ≤ n ∧ i = .int .i64 k ∧ vv = .int .u64 ((v / 256 ^ k : Nat) : Int) ∧ Own wr w.heap.size lv (low k v) ∧ Below w.heap.size w wr) (fun _ _ i _ => n - (intOf i).toNat)
  case atStart => exact ⟨0, Nat.zero_le _, rfl, by simp, Own.nil _ _, Below.refl _ _⟩
  case round =>
    obtain ⟨k, hk, rfl, rfl, hown, hb⟩ := hrel
    have hz := hb.size
    have hdv : v / 256 ^ k < 18446744073709551616 := Nat.lt_of_le_of_lt (Nat.div_le_self _ _) hv
    obtain ⟨V, hV⟩ : ∃ V, V = v / 256 ^ k := ⟨_, rfl⟩
    rw [← hV] at hdv
    rw [← hV]
    by_cases hlt : k < n
    · have HV : Hid (V = v / 256 ^ k) := hV
      clear hV
      go_wp2_with (at_builtin; refine wpList_app _ rfl (.tmp 16) (.tmp 20) rfl rfl w.heap.size _ (low k v) [UInt8.ofNat V] rfl (hown.alloc _) (some ⟨wr.heap.size, 0, none⟩) 1 1 rfl rfl (at_lit wr [UInt8.ofNat V] _ (lit_byte V)) (by rw [low_length]; omega) (by simp; omega) ?_; intro v1 w1 ho1 hb1)
      go_roundw
      case rel => exact ⟨k + 1, by omega, by go_num, by rw [div_step V v k HV.out], by rw [HV.out] at ho1; exact ho1, (hb.alloc hz _).trans hb1⟩
      case measure => simp [intOf]; omega
    · obtain rfl : k = n := by omega
      clear hV hdv
      obtain ⟨w1, rfl⟩ : ∃ w1 : World, w1 = wr := ⟨_, rfl⟩
      obtain ⟨g, c, hv7, hc7, hat7⟩ := hown.form_pos (by intro e; have := congrArg List.length e; rw [low_length] at this; simp at this; omega)
      rw [low_length] at hv7
      subst hv7
      go_wp2_with (at_builtin; refine wpList_app _ rfl (.tmp 24) (.tmp 25) rfl rfl w1.heap.size _ [] l rfl (Own.nil _ _) a len cap rfl hl (hat.below hb) (by simp; omega) (Nat.le_refl _) ?_; intro v2 w2 ho2 hb2)
      go_loopw [9, 10] (fun ov i wr => ∃ q : Nat, q ≤ k ∧ i = .int .i64 ((q : Int) - 1) ∧ Own wr w1.heap.size ov (l ++ (be k v).take (k - q)) ∧ Below w1.heap.size w1 wr) (fun _ i _ => (intOf i + 1).toNat)
      case atStart => exact ⟨k, Nat.le_refl _, rfl, by simpa using ho2, hb2⟩
      case round =>
        obtain ⟨q, hq, rfl, hown9, hb9⟩ := hrel
        have hz9 := hb9.size
        rcases q with _ | r
        · go_wp2
          go_ret
          refine ⟨_, rfl, ?_, bnext hb hb9⟩
          rw [Nat.sub_zero, List.take_of_length_le (by rw [be_length]; omega)] at hown9
          exact hown9.le hz
        · have er : (((r + 1 : Nat) : Int) - 1) = r := by omega
          rw [er]
          clear er
          have hatr := (hat7.below hb9)
          obtain ⟨b', o', he, hcr⟩ := hatr (by intro e; have := congrArg List.length e; rw [low_length] at this; simp at this; omega)
          simp at he
          obtain ⟨rfl, rfl⟩ := he
          have hcell := hcr r (by rw [low_length]; omega)
          rw [Nat.zero_add] at hcell
          clear hcr
          have hbk := be_back k v r (by omega)
          obtain ⟨x, hx⟩ : ∃ x, x = (low k v)[r]'(by rw [low_length]; omega) := ⟨_, rfl⟩
          rw [← hx] at hcell hbk
          have hbk := hid hbk
          clear hx
          go_wp2_with (at_builtin; refine wpList_app _ rfl (.tmp 33) (.tmp 38) rfl rfl w1.heap.size _ _ [x] rfl (hown9.alloc _) (some ⟨wr.heap.size, 0, none⟩) 1 1 rfl rfl (at_lit wr [x] _ (lit_one x)) (by simp [be_length]; omega) (by simp; omega) ?_; intro v3 w3 ho3 hb3)
          rw [List.append_assoc, ← hbk.out] at ho3
          exact ⟨⟨r, by omega, rfl, ho3, (hb9.alloc hz9 _).trans hb3⟩, by simp [intOf]⟩

theorem reftext_no_long (a : Option Addr) (cap len : Nat) (s : ByteArray) (w : World) (hs : 65535 < s.size) (hm : s.size ≤ 9223372036854775807) :
    Calls Try.prog 39 #[.slice a len cap, .string s] w fun e w' => e = .returned (.tuple #[.slice none 0 0, .int .i64 3]) ∧ w' = w := by
  go_enter Try.func39, Try.ntmps39
  go_wp2
  go_ret2
  exact ⟨rfl, rfl⟩

theorem refaddtext_any (a : Option Addr) (cap len : Nat) (l : List UInt8) (s : ByteArray) (w : World) (hl : l.length = len) (hlen : len ≤ 140737488355328) (hs : s.size ≤ 65535) (hat : At w a l) :
    Calls Try.prog 39 #[.slice a len cap, .string s] w fun e w' => ∃ g c, e = .returned (.tuple #[.slice (some ⟨g, 0, none⟩) (len + (2 + s.size)) c, .int .i64 0]) ∧ At w' (some ⟨g, 0, none⟩) (l ++ be 2 s.size ++ s.data.toList) ∧ Below w.heap.size w w' := by
  go_enter Try.func39, Try.ntmps39
  go_wp2_with fail
  refine (refadd_any a cap len 2 s.size l _ hl hlen (by omega) (by omega) (by omega) hat).mono ?_
  rintro e w1 ⟨r, rfl, ho1, hb1⟩
  have hz := hb1.size
  go_wp2_with (at_builtin; refine wpList_app_string _ rfl (.tmp 13) (.tmp 14) rfl rfl w.heap.size r _ s rfl ho1 rfl (by simp [be_length]; omega) hz ?_; intro v2 w2 ho2 hb2; obtain ⟨g2, c2, hv2, hc2, hat2⟩ := ho2.form_pos (by intro e; have := congrArg List.length e; simp [be_length] at this); have hl2 : (l ++ be 2 s.size ++ s.data.toList).length = len + (2 + s.size) := (by simp [be_length, hl]); rw [hl2] at hv2; rw [hv2])
  go_ret2
  exact ⟨g2, c2, rfl, hat2, hb1.trans hb2⟩

theorem reftext_no (a : Option Addr) (cap len : Nat) (l : List UInt8) (p : Int) (w : World) (hl : l.length = len) (hlen : len ≤ 140737488355328) (hat : At w a l)
    (h : ¬ (0 ≤ p ∧ p + 2 ≤ len ∧ p + 2 + rdV l p 2 ≤ len)) :
    Calls Try.prog 62 #[.slice a len cap, .int .i64 p] w fun e w' => e = .returned (.tuple #[.string ByteArray.empty, .int .i64 0, .bool false]) ∧ w' = w := by
  by_cases h0 : 0 ≤ p ∧ p + 2 ≤ len
  · have hB : rdB l p 2 = true := by unfold rdB; simp; omega
    have hv := rdV_bounds l p 2
    obtain ⟨V, hV⟩ : ∃ V : Nat, rdV l p 2 = V := ⟨(rdV l p 2).toNat, by omega⟩
    rw [hV] at hv h
    have HV : Hid (rdV l p 2 = (V : Int)) := hV
    have HB : Hid (rdB l p 2 = true) := hB
    clear hV hB
    have h1 : (len : Int) - p - 2 < V := by omega
    clear h
    go_enter Try.func62, Try.ntmps62
    go_wp2_with (go_at_call 61; refine (refnum_any a cap len l p 2 _ hl hlen (by omega) (by omega) hat).mono ?_; rintro e w' ⟨rfl, rfl⟩; rw [HV.out, HB.out])
    go_ret3
    exact ⟨rfl, rfl⟩
  · have hB : rdB l p 2 = false := by unfold rdB; simp; omega
    have HB : Hid (rdB l p 2 = false) := hB
    clear hB h
    go_enter Try.func62, Try.ntmps62
    go_wp2_with (go_at_call 61; refine (refnum_any a cap len l p 2 _ hl hlen (by omega) (by omega) hat).mono ?_; rintro e w' ⟨rfl, rfl⟩; rw [HB.out])
    go_ret3
    exact ⟨rfl, rfl⟩

theorem reftext_yes (a : Option Addr) (cap len : Nat) (l : List UInt8) (p V : Nat) (w : World) (hl : l.length = len) (hlen : len ≤ 140737488355328) (hcap : len ≤ cap) (hat : At w a l)
    (hV : rdV l p 2 = V) (h : p + 2 + V ≤ len) :
    Calls Try.prog 62 #[.slice a len cap, .int .i64 p] w fun e w' => e = .returned (.tuple #[.string ⟨((l.drop (p + 2)).take V).toArray⟩, .int .i64 (p + 2 + V), .bool true]) ∧ w' = w := by
  have hB : rdB l p 2 = true := by unfold rdB; simp; omega
  have hv := rdV_bounds l p 2
  rw [hV] at hv
  have HV : Hid (rdV l p 2 = (V : Int)) := hV
  have HB : Hid (rdB l p 2 = true) := hB
  clear hV hB
  have h1 : ¬ (len : Int) - p - 2 < V := by omega
  obtain ⟨b, o, rfl, hc⟩ := hat (by intro e; subst e; simp at hl; omega)
  by_cases hV0 : V = 0
  · subst hV0
    have hcv := conv_empty
    have e0 : (⟨((l.drop (p + 2)).take 0).toArray⟩ : ByteArray) = ByteArray.empty := by simp; rfl
    rw [e0]
    clear e0
    go_enter Try.func62, Try.ntmps62
    go_wp2_with (go_at_call 61; refine (refnum_any _ cap len l p 2 _ hl hlen (by omega) (by omega) hat).mono ?_; rintro e w' ⟨rfl, rfl⟩; rw [HV.out, HB.out])
    all_goals go_ret3
    all_goals exact ⟨rfl, rfl⟩
  · have hV1 : 0 < V := by omega
    have hcv := conv_run w _ _ V (cap - (p + 2)) (by simp; omega) (At.window hc (p + 2) V)
    go_enter Try.func62, Try.ntmps62
    go_wp2_with (go_at_call 61; refine (refnum_any _ cap len l p 2 _ hl hlen (by omega) (by omega) hat).mono ?_; rintro e w' ⟨rfl, rfl⟩; rw [HV.out, HB.out])
    go_ret3
    exact ⟨rfl, rfl⟩

end Go.Proofs.Ytkkdiciadkcmmaa
