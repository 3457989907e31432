/-
  impl.levelRows: the levels as rows.
-/
import Derived.Test.YtlodaeoikkjbkaaDoorNa
import Derived.Test.YtlodaeoikkjbkaaDoorDist
import Derived.Test.YtlodaeoikkjbkaaDoorPe7
import Derived.ScopeJumps
import Derived.WalkMore
namespace Go.Proofs.YtlodaeoikkjbkaaDoor
set_option maxRecDepth 100000
open Go.RowKit

/-- The digits of a that b has not. -/
def anot (a b : Nat) : Nat := a ^^^ (a &&& b)
theorem anot_bit (a b i : Nat) : (anot a b).testBit i = (a.testBit i && !b.testBit i) := by
  unfold anot
  rw [Nat.testBit_xor, Nat.testBit_and]
  cases a.testBit i <;> cases b.testBit i <;> rfl
theorem anot_lt {a b m : Nat} (h : a < 2 ^ m) : anot a b < 2 ^ m := by
  apply Nat.lt_pow_two_of_testBit
  intro i hi
  rw [anot_bit, Nat.testBit_lt_two_pow (Nat.lt_of_lt_of_le h (Nat.pow_le_pow_right (by decide) hi))]
  rfl
theorem andNot_nat (a b : Nat) (ha : a < 2 ^ 63) : bits .andNot .i64 (a : Int) (b : Int) = ((anot a b : Nat) : Int) := by
  have e1 : BitVec.ofInt 64 (a : Int) = BitVec.ofNat 64 a := by simp
  have e2 : BitVec.ofInt 64 (b : Int) = BitVec.ofNat 64 b := by simp
  show IntKind.i64.wrap ((BitVec.ofInt 64 (a : Int) &&& ~~~BitVec.ofInt 64 (b : Int)).toNat : Int) = _
  rw [e1, e2]
  have hlt : anot a b < 2 ^ 63 := anot_lt ha
  have h : (BitVec.ofNat 64 a &&& ~~~BitVec.ofNat 64 b) = BitVec.ofNat 64 (anot a b) := by
    apply BitVec.eq_of_getLsbD_eq
    intro i hi
    simp only [BitVec.getLsbD_and, BitVec.getLsbD_not, BitVec.getLsbD_ofNat, anot_bit, hi, decide_true, Bool.true_and]
  rw [h, BitVec.toNat_ofNat, Nat.mod_eq_of_lt (by omega), wrap_i64_nat _ (by omega) (by omega)]

/-- The neighbours of x but, of v, those of the row wo. -/
def Rw (zs : List Int) (v wo : Nat) (x w : Nat) : Bool := bt (el zs x) w && !(x == v && wo.testBit w)
/-- The rows ls are the levels of v, all of them. -/
structure LvOk (zs : List Int) (v wo : Nat) (ls : List Nat) : Prop where
  bit : ∀ k r, ls[k]? = some r → r < 2 ^ zs.length ∧ ∀ w, r.testBit w = lev (Rw zs v wo) zs.length v k w
  last : ∀ w, lev (Rw zs v wo) zs.length v ls.length w = false
  len : ls.length ≤ zs.length
  ne : ∀ r, r ∈ ls → r ≠ 0
/-- What levelRows answers. -/
def LvRes (B : Nat) (zs : List Int) (v wo : Nat) (e : Ending) (w' : World) : Prop := ∃ (u : Value) (ls : List Nat), e = .returned u ∧ w'.ownsRow B 2 1 u ls.length (natsV ls) ∧ LvOk zs v wo ls

/-- What holds at the label: the levels so far, the vertices met, those around the last level. -/
structure LvInv (zs : List Int) (v wo : Nat) (ls : List Nat) (mt ar : Nat) : Prop where
  bit : ∀ k r, ls[k]? = some r → r < 2 ^ zs.length ∧ ∀ w, r.testBit w = lev (Rw zs v wo) zs.length v k w
  pos : 0 < ls.length
  len : ls.length ≤ zs.length
  ne : ∀ r, r ∈ ls → r ≠ 0
  mlt : mt < 2 ^ zs.length
  mbit : ∀ w, mt.testBit w = met (Rw zs v wo) zs.length v (ls.length - 1) w
  alt : ar < 2 ^ zs.length
  abit : ∀ w, ar.testBit w = (List.range zs.length).any fun x => lev (Rw zs v wo) zs.length v (ls.length - 1) x && Rw zs v wo x w

theorem ownsRow_base {w : World} {B B' : Nat} {e : TypeId} {sz : Nat} {u : Value} {n : Nat} {xs : List Value} (h : w.ownsRow B e sz u n xs) (hb : B' ≤ B) : w.ownsRow B' e sz u n xs :=
  ⟨h.1, h.2.imp id fun ⟨g, cap, cur, e, hB, r⟩ => ⟨g, cap, cur, e, Nat.le_trans hb hB, r⟩⟩
theorem LvInv.row {zs : List Int} {v wo : Nat} {ls : List Nat} {mt ar : Nat} (h : LvInv zs v wo ls mt ar) : anot ar mt < 2 ^ zs.length ∧ ∀ w, (anot ar mt).testBit w = lev (Rw zs v wo) zs.length v ls.length w := by
  refine ⟨anot_lt h.alt, fun w => ?_⟩
  obtain ⟨d, hd⟩ : ∃ d, ls.length = d + 1 := ⟨ls.length - 1, by have := h.pos; omega⟩
  have e := h.abit w
  have m := h.mbit w
  rw [hd, Nat.add_sub_cancel] at e m
  rw [anot_bit, hd, lev_succ, ← m, ← e]
  by_cases hw : w < zs.length
  · rw [decide_eq_true hw]; cases ar.testBit w <;> cases mt.testBit w <;> rfl
  · rw [Nat.testBit_lt_two_pow (Nat.lt_of_lt_of_le h.alt (Nat.pow_le_pow_right (by decide) (by omega)))]; simp
theorem LvInv.done {zs : List Int} {v wo : Nat} {ls : List Nat} {mt ar : Nat} (h : LvInv zs v wo ls mt ar) (h0 : anot ar mt = 0) : LvOk zs v wo ls :=
  ⟨h.bit, fun w => by rw [← h.row.2 w, h0]; simp, h.len, h.ne⟩
theorem LvInv.next {zs : List Int} {v wo : Nat} {ls : List Nat} {mt ar : Nat} (h : LvInv zs v wo ls mt ar) (hv : v < zs.length) (hl : zs.length ≤ 62) (hz : ∀ i, i < zs.length → (el zs i).toNat < 2 ^ zs.length) (h0 : anot ar mt ≠ 0) :
    LvInv zs v wo (ls ++ [anot ar mt]) (mt ||| anot ar mt) (arN zs (mem (anot ar mt))) ∧ mt < mt ||| anot ar mt := by
  obtain ⟨r1, r2⟩ := h.row
  have hex : ∃ i, (anot ar mt).testBit i = true := by
    refine Classical.byContradiction fun hn => h0 (Nat.eq_of_testBit_eq fun i => ?_)
    cases hb : (anot ar mt).testBit i with
    | false => simp
    | true => exact absurd ⟨i, hb⟩ hn
  obtain ⟨i, hi⟩ := hex
  have hli : lev (Rw zs v wo) zs.length v ls.length i = true := by rw [← r2]; exact hi
  have hlen := lev_few hv hli
  have hl1 : (ls ++ [anot ar mt]).length - 1 = ls.length := by simp
  obtain ⟨d, hd⟩ : ∃ d, ls.length = d + 1 := ⟨ls.length - 1, by have := h.pos; omega⟩
  refine ⟨⟨?_, by simp, by simp; omega, fun q hq => by
    rcases List.mem_append.1 hq with hq | hq
    · exact h.ne q hq
    · have : q = anot ar mt := by simpa using hq
      rw [this]; exact h0, Nat.or_lt_two_pow h.mlt r1, ?_, arN_lt zs _ hz _, ?_⟩, ?_⟩
  · intro k r hk
    rcases Nat.lt_or_ge k ls.length with hlt | hge
    · rw [List.getElem?_append_left hlt] at hk
      exact h.bit k r hk
    · rw [List.getElem?_append_right hge] at hk
      have hk0 : k - ls.length = 0 := by
        refine Classical.byContradiction fun hn => ?_
        rw [List.getElem?_eq_none (by simp; omega)] at hk
        cases hk
      rw [hk0] at hk
      simp at hk
      have hkl : k = ls.length := by omega
      subst hk; subst hkl
      exact ⟨r1, r2⟩
  · intro w
    have m := h.mbit w
    rw [hl1, Nat.testBit_or, r2, m, hd, Nat.add_sub_cancel, met_succ]
  · intro w
    rw [hl1, arN_bit, Bool.eq_iff_iff, List.any_eq_true, List.any_eq_true]
    have hxv : ∀ x, lev (Rw zs v wo) zs.length v ls.length x = true → (x == v) = false := by
      intro x hx
      cases hxv : x == v with
      | false => rfl
      | true =>
        have : lev (Rw zs v wo) zs.length v 0 x = true := by rw [lev_zero]; exact hxv
        have := lev_uniq hx this
        omega
    constructor
    · rintro ⟨x, hx, hb⟩
      have hx2 := (mem_iff.1 hx).2
      rw [r2] at hx2
      refine ⟨x, List.mem_range.2 (lev_lt hv hx2), ?_⟩
      rw [hx2, Rw, hb, hxv x hx2]; rfl
    · rintro ⟨x, hx, hb⟩
      rw [List.mem_range] at hx
      simp only [Bool.and_eq_true] at hb
      refine ⟨x, mem_iff.2 ⟨by omega, by rw [r2]; exact hb.1⟩, ?_⟩
      have := hb.2
      unfold Rw at this
      simp only [Bool.and_eq_true] at this
      exact this.1
  · refine Nat.lt_of_le_of_ne Nat.left_le_or fun e => ?_
    have hb : (mt ||| anot ar mt).testBit i = true := by rw [Nat.testBit_or, hi]; simp
    rw [← e] at hb
    have h2 := hi
    rw [anot_bit, hb] at h2
    simp at h2

theorem LvInv.start {zs : List Int} {v wo : Nat} (hv : v < zs.length) (hz : (el zs v).toNat < 2 ^ zs.length) : LvInv zs v wo [2 ^ v] (2 ^ v) (anot (el zs v).toNat wo) := by
  have hp : 2 ^ v < 2 ^ zs.length := Nat.pow_lt_pow_right (by decide) hv
  have hb : ∀ w, (2 ^ v).testBit w = (w == v) := fun w => by rw [Nat.testBit_two_pow, Bool.eq_iff_iff, decide_eq_true_iff, beq_iff_eq]; exact eq_comm
  refine ⟨?_, by simp, by simp; omega, fun q hq => by
    have : q = 2 ^ v := by simpa using hq
    have := Nat.two_pow_pos v
    omega, hp, fun w => ?_, anot_lt hz, fun w => ?_⟩
  · intro k r hk
    have hk0 : k = 0 := by
      refine Classical.byContradiction fun hn => ?_
      rw [List.getElem?_eq_none (by simp; omega)] at hk
      cases hk
    subst hk0
    simp at hk
    subst hk
    exact ⟨hp, fun w => by rw [hb, lev_zero]⟩
  · rw [hb]; rfl
  · rw [anot_bit, Bool.eq_iff_iff, List.any_eq_true]
    constructor
    · intro h
      refine ⟨v, List.mem_range.2 hv, ?_⟩
      show (lev (Rw zs v wo) zs.length v 0 v && Rw zs v wo v w) = true
      rw [lev_zero, Rw]
      unfold bt
      simpa using h
    · rintro ⟨x, _, h⟩
      have h' : (lev (Rw zs v wo) zs.length v 0 x && Rw zs v wo x w) = true := h
      rw [lev_zero, Bool.and_eq_true] at h'
      obtain ⟨h1, h2⟩ := h'
      have : x = v := by simpa using h1
      subst this
      unfold Rw bt at h2
      simpa using h2

set_option maxRecDepth 100000 in
set_option maxHeartbeats 2000000 in
theorem levelRows_rows (n : Int) (b off cap : Nat) (zs : List Int) (v wo : Nat) (w : World) (hb : b < w.heap.size) (hc : Cells w b off zs) (hT : Tab w) (h1 : 1 ≤ n) (h2 : n ≤ 62) (h3 : (zs.length : Int) = n) (hro : ∀ i, i < zs.length → 0 ≤ el zs i ∧ el zs i ≤ 2 ^ n.toNat - 1) (hv : v < zs.length) :
    Calls Tryd.prog 61 #[.agg #[.int .i64 n, .slice (some ⟨b, off, none⟩) zs.length cap], .int .i64 v, .int .i64 wo] w fun e w' => LvRes w.heap.size zs v wo e w' ∧ Below w.heap.size w w' := by
  have hz := hro v hv
  have r1 := (hro v hv).2
  have hv0 : (0 : Int) ≤ v := by omega
  have hv1 : (v : Int) < zs.length := by omega
  have hv62 : (v : Int) ≤ 61 := by omega
  obtain ⟨pv0, pv1⟩ := pow_bounds v (by omega)
  obtain ⟨z, hzz⟩ : ∃ z : Nat, el zs v = (z : Int) := ⟨(el zs v).toNat, by omega⟩
  have hz62 : z < 2 ^ 62 := by
    have e : ((2 : Int) ^ n.toNat) = ((2 ^ n.toNat : Nat) : Int) := by simp
    have hp : 2 ^ n.toNat ≤ 2 ^ 62 := Nat.pow_le_pow_right (by decide) (by omega)
    rw [e, hzz] at r1
    omega
  have hc1 : w.cell? ⟨b, off + v, none⟩ = some (.int .i64 (z : Int)) := by rw [← hzz]; exact hc v hv
  have hzv : (el zs v).toNat < 2 ^ zs.length := by
    rw [← h3] at r1
    rw [Int.toNat_natCast] at r1
    have e : ((2 : Int) ^ zs.length) = ((2 ^ zs.length : Nat) : Int) := by simp
    rw [e] at r1
    omega
  have hz2 : ∀ i, i < zs.length → 0 ≤ el zs i ∧ (el zs i).toNat < 2 ^ 62 := fun i hi => by
    have q0 := (hro i hi).1
    have q1 := (hro i hi).2
    have e : ((2 : Int) ^ n.toNat) = ((2 ^ n.toNat : Nat) : Int) := by simp
    have hp : 2 ^ n.toNat ≤ 2 ^ 62 := Nat.pow_le_pow_right (by decide) (by omega)
    rw [e] at q1
    omega
  have hzn : ∀ i, i < zs.length → (el zs i).toNat < 2 ^ zs.length := fun i hi => by
    have q0 := (hro i hi).1
    have q1 := (hro i hi).2
    rw [← h3, Int.toNat_natCast] at q1
    have e : ((2 : Int) ^ zs.length) = ((2 ^ zs.length : Nat) : Int) := by simp
    rw [e] at q1
    omega
  have HZ2 := Lib.hid hz2; have HZV := Lib.hid hzn
  clear hz2 hzn
  have HAN := Lib.hid (andNot_nat z wo (by omega))
  have W1 := Lib.hid (i64_pow (v : Int) (by omega))
  have HC := Lib.hid hc
  subst h3
  have HZZ := Lib.hid hzz
  clear hz r1 hzz hro hc
  obtain ⟨i0, hi, hz0, hz1, hz2⟩ := info_parts mk_info
  have HII := Lib.hid hi; have HII0 := Lib.hid hz0; have HII1 := Lib.hid hz1; have HII2 := Lib.hid hz2
  clear hi hz0 hz1 hz2
  have HI0 := Lib.hid (LvInv.start (zs := zs) (v := v) (wo := wo) hv hzv)
  have D0 : Below w.heap.size w (w.alloc (.cells #[.int .i64 zs.length, .slice (some ⟨b, off, none⟩) zs.length cap] 28)) := (Below.refl _ _).alloc (Nat.le_refl _) _
  have HG0 := Lib.hid (GBox.new (n := zs.length) (cap := cap) hb HC.out)
  have TW := Lib.hid (hT.belowAll D0)
  have hTl := hT.lt
  go_enter Tryd.func61, Tryd.ntmps61
  go_wp2
  refine wp_scope_jumps 0 (fun a' W' => ∃ (ls : List Nat) (mt ar : Nat) (u7 u9 u11 u12 u13 u14 u15 u16 u17 u18 u19 u20 u21 u22 u23 u24 u25 u26 u27 u28 u29 u30 u31 u32 u33 u34 u35 u36 u37 u38 : Value), a' = { tmps := #[.agg #[.int .i64 zs.length, .slice (some ⟨b, off, none⟩) zs.length cap], .int .i64 v, .int .i64 wo, .pointer (some ⟨w.heap.size, 0, none⟩), undef, undef, .slice none 0 0, u7, .int .i64 (mt : Nat), u9, .int .i64 (ar : Nat), u11, u12, u13, u14, u15, u16, u17, u18, u19, u20, u21, u22, u23, u24, u25, u26, u27, u28, u29, u30, u31, u32, u33, u34, u35, u36, u37, u38], defers := [] } ∧ Hid (LvInv zs v wo ls mt ar) ∧ Hid (W'.ownsRow (w.heap.size + 1) 2 1 u9 ls.length (natsV ls)) ∧ Below (w.heap.size + 1) (w.alloc (.cells #[.int .i64 zs.length, .slice (some ⟨b, off, none⟩) zs.length cap] 28)) W') (fun a' _ => 4611686018427387904 - (intOf (a'.tmps.getD 8 undef)).toNat) rfl ?_ ?_
  · go_wp2
    go_step3
    rename_i Q0 K0 hK0
    refine hK0 _ _ ?_
    have e8 : (2 : Int) ^ v = ((2 ^ v : Nat) : Int) := by simp
    rw [HAN.out, e8]
    obtain ⟨W', hW'⟩ : ∃ W', W' = (w.alloc (.cells #[.int .i64 zs.length, .slice (some ⟨b, off, none⟩) zs.length cap] 28)).alloc (.cells (intsA [((2 ^ v : Nat) : Int)]) 2) := ⟨_, rfl⟩
    have hB : Below (w.heap.size + 1) (w.alloc (.cells #[.int .i64 zs.length, .slice (some ⟨b, off, none⟩) zs.length cap] 28)) W' := by rw [hW']; exact (Below.refl _ _).alloc (by simp) _
    have HO : Hid (W'.ownsRow (w.heap.size + 1) 2 1 (.slice (some ⟨w.heap.size + 1, 0, none⟩) 1 1) [2 ^ v].length (natsV [2 ^ v])) := by
      have hk := Blk.new (w.alloc (.cells #[.int .i64 zs.length, .slice (some ⟨b, off, none⟩) zs.length cap] 28)) [((2 ^ v : Nat) : Int)]
      rw [World.size_alloc, ← hW'] at hk
      exact Own.of_blk hk (B := w.heap.size + 1) (Nat.le_refl _) (by unfold maxLen; simp)
    have hW2 : (w.alloc (.cells #[.int .i64 zs.length, .slice (some ⟨b, off, none⟩) zs.length cap] 28)).alloc (.cells #[.int .i64 ((2 ^ v : Nat) : Int)] 2) = W' := hW'.symm
    rw [hW2]
    have HI : Hid (LvInv zs v wo [2 ^ v] (2 ^ v) (anot z wo)) := by have := HI0.out; rw [HZZ.out, Int.toNat_natCast] at this; exact this
    obtain ⟨ls, hls⟩ : ∃ x, x = [2 ^ v] := ⟨_, rfl⟩
    rw [← hls] at HO HI
    clear hW' hW2 hls
    obtain ⟨mt, hmt⟩ : ∃ m, m = 2 ^ v := ⟨_, rfl⟩
    rw [← hmt] at HI ⊢
    clear hmt e8
    obtain ⟨ar, har0⟩ : ∃ m, m = anot z wo := ⟨_, rfl⟩
    rw [← har0] at HI ⊢
    clear har0
    have hBs : w.heap.size + 1 ≤ W'.heap.size := by have := hB.size; simpa using this
    obtain ⟨r, hr⟩ : ∃ r, r = anot ar mt := ⟨_, rfl⟩
    have ha62 : ar < 2 ^ 63 := Nat.lt_of_lt_of_le HI.out.alt (Nat.pow_le_pow_right (by decide) (by omega))
    have hm62 : mt < 2 ^ 63 := Nat.lt_of_lt_of_le HI.out.mlt (Nat.pow_le_pow_right (by decide) (by omega))
    have han := andNot_nat ar mt ha62
    rw [← hr] at han
    have HR := Lib.hid hr; clear hr
    by_cases h0 : r = 0
    · subst h0
      have HD := Lib.hid (HI.out.done HR.out.symm)
      go_wp2
      simp only [Exit.jump]
      go_ret
      exact ⟨⟨_, ls, rfl, ownsRow_base HO.out (by omega), HD.out⟩, D0.trans (hB.mono (by simp))⟩
    · have t0 : ((r : Int) == 0) = false := by rw [beq_eq_false_iff_ne]; omega
      have hrl : r < 2 ^ zs.length := by rw [HR.out]; exact HI.out.row.1
      have hp62 : 2 ^ zs.length ≤ 2 ^ 62 := Nat.pow_le_pow_right (by decide) (by omega)
      have hor := or_i64 mt r hm62 (by omega)
      obtain ⟨m2, hm2⟩ : ∃ m2, m2 = mt ||| r := ⟨_, rfl⟩
      rw [← hm2] at hor
      have HM2 := Lib.hid hm2; clear hm2
      have hlen := HI.out.len
      have HNX := Lib.hid (HI.out.next hv (by omega) HZV.out (by rw [← HR.out]; exact h0))
      have har := fun W3 hb3 hc3 hT3 => around_any zs.length b off cap zs r W3 hb3 hc3 hT3 (by omega) hrl HZ2.out
      have HAR := Lib.hid har
      clear h0 har
      go_wp2_with (at_builtin; refine wpList_append_own _ rfl _ _ 22 rfl (w.heap.size + 1) 2 i0 (.int .i64 0) 1 8 Tryd.underlying22 HII.out HII0.out HII1.out HII2.out rfl (by decide) _ _ _ rfl (World.ownsRow.alloc HO.out _) ⟨W'.heap.size, 0, none⟩ 1 1 [.int .i64 (r : Nat)] rfl rfl (cell_one_new _ _ _) (by simp [Value.oneCell']) (by unfold maxLen; omega) (by omega) (by simp; omega) ?_; intro u' w3 hown3 hgr3 _; have E3 := Lib.hid ((hB.alloc hBs _).grown hgr3 (by simp; omega) (fun k e => (World.ownsRow.lt HO.out k e).1)); have G3 := HG0.out.below E3.out; have b0 := G3.b0; have b1 := G3.b1; have HO3 := Lib.hid hown3; clear hown3 hgr3)
      refine (HAR.out w3 G3.lb G3.cells (TW.out.below E3.out (by omega))).mono ?_
      rintro e w4 ⟨rfl, hb4⟩
      have E4 := Lib.hid (E3.out.trans (hb4.mono G3.lt))
      have HNI : Hid (LvInv zs v wo (ls ++ [r]) m2 (arN zs (mem r))) := by have := HNX.out.1; rw [← HR.out, ← HM2.out] at this; exact this
      have hlt : mt < m2 := by have := HNX.out.2; rw [← HR.out, ← HM2.out] at this; exact this
      have hm2l : m2 < 2 ^ 62 := Nat.lt_of_lt_of_le HNI.out.mlt hp62
      have HO4 : Hid (w4.ownsRow (w.heap.size + 1) 2 1 u' (ls ++ [r]).length (natsV (ls ++ [r]))) := by
        show World.ownsRow _ _ _ _ _ _ _
        rw [List.length_append, natsV_append]
        exact ownsRow_below HO3.out hb4
      clear hb4 E3 G3 b0 b1 HO3
      go_wp2
      go_step3
      exact ⟨rfl, ls ++ [r], m2, arN zs (mem r), _, _, _, _, _, _, _, _, _, _, _, _, _, _, _, _, _, _, _, _, _, _, _, _, _, _, _, _, _, _, rfl, HNI, HO4, E4.out⟩
  · rintro a' W' ⟨ls, mt, ar, u7, u9, u11, u12, u13, u14, u15, u16, u17, u18, u19, u20, u21, u22, u23, u24, u25, u26, u27, u28, u29, u30, u31, u32, u33, u34, u35, u36, u37, u38, rfl, HI, HO, hB⟩
    have hBs : w.heap.size + 1 ≤ W'.heap.size := by have := hB.size; simpa using this
    obtain ⟨r, hr⟩ : ∃ r, r = anot ar mt := ⟨_, rfl⟩
    have ha62 : ar < 2 ^ 63 := Nat.lt_of_lt_of_le HI.out.alt (Nat.pow_le_pow_right (by decide) (by omega))
    have hm62 : mt < 2 ^ 63 := Nat.lt_of_lt_of_le HI.out.mlt (Nat.pow_le_pow_right (by decide) (by omega))
    have han := andNot_nat ar mt ha62
    rw [← hr] at han
    have HR := Lib.hid hr; clear hr
    by_cases h0 : r = 0
    · subst h0
      have HD := Lib.hid (HI.out.done HR.out.symm)
      go_wp2
      simp only [Exit.jump]
      go_ret
      exact ⟨⟨_, ls, rfl, ownsRow_base HO.out (by omega), HD.out⟩, D0.trans (hB.mono (by simp))⟩
    · have t0 : ((r : Int) == 0) = false := by rw [beq_eq_false_iff_ne]; omega
      have hrl : r < 2 ^ zs.length := by rw [HR.out]; exact HI.out.row.1
      have hp62 : 2 ^ zs.length ≤ 2 ^ 62 := Nat.pow_le_pow_right (by decide) (by omega)
      have hor := or_i64 mt r hm62 (by omega)
      obtain ⟨m2, hm2⟩ : ∃ m2, m2 = mt ||| r := ⟨_, rfl⟩
      rw [← hm2] at hor
      have HM2 := Lib.hid hm2; clear hm2
      have hlen := HI.out.len
      have HNX := Lib.hid (HI.out.next hv (by omega) HZV.out (by rw [← HR.out]; exact h0))
      have har := fun W3 hb3 hc3 hT3 => around_any zs.length b off cap zs r W3 hb3 hc3 hT3 (by omega) hrl HZ2.out
      have HAR := Lib.hid har
      clear h0 har
      go_wp2_with (at_builtin; refine wpList_append_own _ rfl _ _ 22 rfl (w.heap.size + 1) 2 i0 (.int .i64 0) 1 8 Tryd.underlying22 HII.out HII0.out HII1.out HII2.out rfl (by decide) _ _ _ rfl (World.ownsRow.alloc HO.out _) ⟨W'.heap.size, 0, none⟩ 1 1 [.int .i64 (r : Nat)] rfl rfl (cell_one_new _ _ _) (by simp [Value.oneCell']) (by unfold maxLen; omega) (by omega) (by simp; omega) ?_; intro u' w3 hown3 hgr3 _; have E3 := Lib.hid ((hB.alloc hBs _).grown hgr3 (by simp; omega) (fun k e => (World.ownsRow.lt HO.out k e).1)); have G3 := HG0.out.below E3.out; have b0 := G3.b0; have b1 := G3.b1; have HO3 := Lib.hid hown3; clear hown3 hgr3)
      refine (HAR.out w3 G3.lb G3.cells (TW.out.below E3.out (by omega))).mono ?_
      rintro e w4 ⟨rfl, hb4⟩
      have E4 := Lib.hid (E3.out.trans (hb4.mono G3.lt))
      have HNI : Hid (LvInv zs v wo (ls ++ [r]) m2 (arN zs (mem r))) := by have := HNX.out.1; rw [← HR.out, ← HM2.out] at this; exact this
      have hlt : mt < m2 := by have := HNX.out.2; rw [← HR.out, ← HM2.out] at this; exact this
      have hm2l : m2 < 2 ^ 62 := Nat.lt_of_lt_of_le HNI.out.mlt hp62
      have HO4 : Hid (w4.ownsRow (w.heap.size + 1) 2 1 u' (ls ++ [r]).length (natsV (ls ++ [r]))) := by
        show World.ownsRow _ _ _ _ _ _ _
        rw [List.length_append, natsV_append]
        exact ownsRow_below HO3.out hb4
      clear hb4 E3 G3 b0 b1 HO3
      go_wp2
      go_step3
      refine ⟨rfl, ⟨ls ++ [r], m2, arN zs (mem r), _, _, _, _, _, _, _, _, _, _, _, _, _, _, _, _, _, _, _, _, _, _, _, _, _, _, _, _, _, _, rfl, HNI, HO4, E4.out⟩, ?_⟩
      show 4611686018427387904 - (((m2 : Nat) : Int)).toNat < 4611686018427387904 - (((mt : Nat) : Int)).toNat
      rw [Int.toNat_natCast, Int.toNat_natCast]
      omega
theorem levelRows_some (n : Int) (b off cap : Nat) (zs : List Int) (v wo : Nat) (w : World) (hb : b < w.heap.size) (hc : Cells w b off zs) (hT : Tab w) (hg : isG n zs = true) (hv : v < zs.length) :
    Calls Tryd.prog 61 #[.agg #[.int .i64 n, .slice (some ⟨b, off, none⟩) zs.length cap], .int .i64 v, .int .i64 wo] w fun e w' => LvRes w.heap.size zs v wo e w' ∧ Below w.heap.size w w' := by
  obtain ⟨h1, h2, h3, h4, -⟩ := isG_parts hg
  exact levelRows_rows n b off cap zs v wo w hb hc hT h1 h2 h3 (fun i hi => ⟨(isG_row_ok hg i hi).1, rowOk_le (rowsOk_at h4 hi)⟩) hv
end Go.Proofs.YtlodaeoikkjbkaaDoor
