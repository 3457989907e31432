/-
  impl.longerLists, over any closure of one captured variable.
-/
import Derived.Test.YtkflcjhoghiffaaDoorTl0
import Derived.RangeFuncNested
import Derived.Sort.CutIn
namespace Go.Proofs.YtkflcjhoghiffaaDoor
set_option maxRecDepth 100000
set_option maxRecDepth 100000
open Go.RowKit Go.Shelf

attribute [local go_sem] Oper.semAt_some

/-- A list with each of the places of digits 1 of a number behind it. -/
def extF (F : List Int → Nat) (t : List Int) : List (List Int) := (mem (F t)).map fun y : Nat => t ++ [(y : Int)]
def preF (F : List Int → Nat) (T : List (List Int)) (a : Nat) (ys : List Nat) : List (List Int) := (T.take a).flatMap (extF F) ++ ys.map fun y : Nat => elS T a ++ [(y : Int)]
theorem preF_zero (F : List Int → Nat) (T : List (List Int)) : preF F T 0 [] = [] := by simp [preF]
theorem preF_snoc (F : List Int → Nat) (T : List (List Int)) (a : Nat) (ys : List Nat) (y : Nat) : preF F T a (ys ++ [y]) = preF F T a ys ++ [elS T a ++ [(y : Int)]] := by
  unfold preF; rw [List.map_append, ← List.append_assoc]; rfl
theorem preF_next (F : List Int → Nat) (T : List (List Int)) (a : Nat) (h : a < T.length) : preF F T a (mem (F (elS T a))) = preF F T (a + 1) [] := by
  unfold preF
  have e : T.take (a + 1) = T.take a ++ [elS T a] := by
    rw [List.take_succ_eq_append_getElem h]
    simp [elS, h]
  rw [e, List.flatMap_append]
  simp [extF]
theorem preF_end (F : List Int → Nat) (T : List (List Int)) : preF F T T.length [] = T.flatMap (extF F) := by simp [preF]
theorem flatF_len (F : List Int → Nat) : ∀ T : List (List Int), (T.flatMap (extF F)).length ≤ 64 * T.length
  | [] => by simp
  | t :: r => by
    have h1 := flatF_len F r
    have h2 := mem_len64P (F t)
    simp [extF] at h1 h2 ⊢
    omega
theorem preF_len (F : List Int → Nat) (T : List (List Int)) (a : Nat) (ys : List Nat) : (preF F T a ys).length ≤ 64 * T.length + ys.length := by
  have h1 := flatF_len F (T.take a)
  have h2 : (T.take a).length ≤ T.length := by rw [List.length_take]; omega
  unfold preF
  rw [List.length_append, List.length_map]
  omega

theorem row_slice0 {w : World} {B : Nat} {v : Value} {xs : List Int} (h : Own w B v xs) : ∃ p l c, v = .slice p l c := by
  rcases h.form with ⟨rfl, _⟩ | ⟨g, cap, rfl, _⟩
  · exact ⟨_, _, _, rfl⟩
  · exact ⟨_, _, _, rfl⟩
theorem own_snoc {w : World} {B : Nat} {v : Value} {t : List Int} {y : Int} (h : w.ownsRow B 2 1 v (t.length + 1) (t.map (Value.int .i64) ++ [.int .i64 y])) : Own w B v (t ++ [y]) := by
  show World.ownsRow _ _ _ _ _ _ _
  rw [List.length_append, List.map_append]
  exact h

/-- What holds when a list has been appended to the list of lists in box E. -/
theorem lg_end {E B : Nat} {tE : TypeId} {W5 w7 w8 : World} {u us : Value} {L : List Int} {Lp : List (List Int)} {cs : List Value} {gg cp : Nat} (hbx : Bx W5 E tE u) (hE : E < B) (hT : TLc W5 B u Lp cs) (hB5 : B ≤ W5.heap.size)
    (B7 : Below W5.heap.size W5 w7) (hO7 : Own w7 W5.heap.size us L) (hne : L ≠ []) (hown8 : w8.ownsRow B 22 1 (.slice (some ⟨gg, 0, none⟩) (Lp.length + 1) cp) (Lp.length + 1) (cs ++ [us])) (hgr8 : w7.grownBy w8 u.ownBlock)
    (hat : u.ownBlock = some gg ∨ gg = w7.heap.size) :
    Bx w8 E tE u ∧ (∀ C, KeepsFrom C W5 (w8.setCell ⟨E, 0, none⟩ (.slice (some ⟨gg, 0, none⟩) (Lp.length + 1) cp))) ∧ Bx (w8.setCell ⟨E, 0, none⟩ (.slice (some ⟨gg, 0, none⟩) (Lp.length + 1) cp)) E tE (.slice (some ⟨gg, 0, none⟩) (Lp.length + 1) cp) ∧
      TL (w8.setCell ⟨E, 0, none⟩ (.slice (some ⟨gg, 0, none⟩) (Lp.length + 1) cp)) B (.slice (some ⟨gg, 0, none⟩) (Lp.length + 1) cp) (Lp ++ [L]) ∧ (∀ B0, B0 ≤ E → Below B0 W5 (w8.setCell ⟨E, 0, none⟩ (.slice (some ⟨gg, 0, none⟩) (Lp.length + 1) cp))) ∧
      (∀ k, k < W5.heap.size → u.ownBlock ≠ some k → w8.heap[k]? = W5.heap[k]? ∧ (k ≠ E → (w8.setCell ⟨E, 0, none⟩ (.slice (some ⟨gg, 0, none⟩) (Lp.length + 1) cp)).heap[k]? = W5.heap[k]?)) ∧ W5.heap.size ≤ (w8.setCell ⟨E, 0, none⟩ (.slice (some ⟨gg, 0, none⟩) (Lp.length + 1) cp)).heap.size := by
  have s7 := B7.size
  have s8 := hgr8.size
  have hub : ∀ k, u.ownBlock = some k → B ≤ k ∧ k < W5.heap.size := fun k e => World.ownsRow.lt hT.1.1 k e
  have hEl := hbx.lt
  have hbx8 : Bx w8 E tE u := (hgr8.block _ (by omega) (fun e => by have := (hub _ e.symm).1; omega)).trans ((B7.block _ hEl).trans hbx)
  have hT7 := hT.below B7
  have hTL8 : TL w8 B (.slice (some ⟨gg, 0, none⟩) (Lp.length + 1) cp) (Lp ++ [L]) := by
    refine hT7.snoc (H := W5.heap.size) (hO7.base hB5) ?_ (fun e => absurd e hne) hown8 hgr8 ?_ (fun i y k hy hk => hT.lt hy hk) (fun k e => hO7.ge k e)
    · cases hu : us.ownBlock with
      | none => exact .inl rfl
      | some k =>
        refine .inr fun e => ?_
        have h1 := hO7.ge k hu
        have h2 := (hub k e.symm).2
        omega
    · rcases hat with e | e
      · exact .inl (by rw [e]; rfl)
      · exact .inr (by rw [e]; rfl)
  have hg9 := grown_setP w8 E 0 (.slice (some ⟨gg, 0, none⟩) (Lp.length + 1) cp)
  have s9 := hg9.size
  refine ⟨hbx8, fun C => ?_, hbx8.set _, hTL8.low hg9 hE, fun B0 h0 => ?_, fun k hk hku => ?_, by omega⟩
  · exact ((keeps_grown (row := none) (grown_of_below B7 none) (fun r e => by cases e)).trans (keeps_grown hgr8 (ownsRow_cells hT7.1.1))).trans ((KeepsOthers.setCell _ _ _).from _)
  · exact ((B7.mono (by omega)).grown hgr8 (by omega) (fun k e => by have := (hub k e).1; omega)).setCell (p := ⟨E, 0, none⟩) (by simpa using h0) _
  · have h8 := (hgr8.block k (by omega) (fun e => hku e.symm)).trans (B7.block _ hk)
    exact ⟨h8, fun hkE => (hg9.block _ (by omega) (fun e => by cases e; exact hkE rfl)).trans h8⟩

theorem mixedL : Tryd.prog.follows Departure.mixedOrders = true := by kernel_rfl
/-- What longerLists leaves. -/
def TLRet (B : Nat) (Ts : List (List Int)) (e : Ending) (w' : World) : Prop := ∃ v, e = .returned v ∧ TL w' B v Ts

set_option maxHeartbeats 6400000 in
theorem longer1_in (fid : FuncId) (p1 : Value) (F : List Int → Nat) (T : List (List Int)) (g cap B0 : Nat) (w : World) (hTS : TS w B0 (.slice (some ⟨g, 0, none⟩) T.length cap) T) (hg : g < w.heap.size)
    (hTl : T.length ≤ 4000) (hel : ∀ a, a < T.length → (elS T a).length ≤ 61 ∧ F (elS T a) < 4611686018427387904) (hT : Tab w)
    (eg : ∀ args W, (callFunc fid args).run Tryd.prog W = .ok (.enter fid args) W)
    (hJ : ∀ (a : Nat) (W : World) (u : Value), a < T.length → Below w.heap.size w W → Own W B0 u (elS T a) → Calls Tryd.prog fid #[u, p1] W fun e w' => e = .returned (.int .i64 (F (elS T a))) ∧ Below W.heap.size W w') :
    CallsIn Fence.wide 5 Tryd.prog 63 #[.slice (some ⟨g, 0, none⟩) T.length cap, .func (.func fid) #[] #[p1]] w fun e w' => TLRet w.heap.size (T.flatMap (extF F)) e w' ∧ Below w.heap.size w w' := by
  obtain ⟨i0, hi, hz0, hz1, hz2⟩ := info_parts mk_info
  have HI := Lib.hid hi; have HI0 := Lib.hid hz0; have HI1 := Lib.hid hz1; have HI2 := Lib.hid hz2
  clear hi hz0 hz1 hz2
  obtain ⟨j0, hj, hy0, hy1, hy2⟩ := info_parts mkS_info
  have HJ := Lib.hid hj; have HJ0 := Lib.hid hy0; have HJ1 := Lib.hid hy1; have HJ2 := Lib.hid hy2
  clear hj hy0 hy1 hy2
  have HC := Lib.hid hJ; have HEL := Lib.hid hel; have HTS := Lib.hid hTS
  have HT0 := Lib.hid hT
  have hT0 := hT.lt
  clear hJ hel hTS hT
  refine callsIn_of_wp_marks Tryd.func63 rfl trivial ?_ rfl
  simp only [Tryd.ntmps63, List.size_toArray, List.length_cons, List.length_nil, Nat.reduceAdd, Nat.reduceSub, Array.replicate_succ, Array.replicate_zero, List.push_toArray, List.append_toArray, List.nil_append, List.cons_append]
  gi_upto_region 2 with fail
  obtain ⟨Wb, hWb⟩ : ∃ Wb, Wb = w.alloc (.cells #[.slice none 0 0] 67) := ⟨_, rfl⟩
  refine at_world (w' := Wb) ?_ (by rw [hWb])
  have hbb : Below w.heap.size w Wb := by rw [hWb]; exact (Below.refl _ _).alloc (Nat.le_refl _) _
  have sb : Wb.heap.size = w.heap.size + 1 := by rw [hWb]; simp
  have BXb : Hid (Bx Wb w.heap.size 67 (.slice none 0 0)) := by show Bx _ _ _ _; rw [hWb]; exact World.alloc_heap_new w _
  clear hWb
  gi_wp2
  have h0T : (0 : Int) ≤ 0 := Int.le_refl 0
  refine wpIn_loop (fun a W => ∃ (v : Nat) (Ds : List Nat) (u u6 u7 u8 u12 u13 u14 u15 u16 u17 u18 u19 u20 u21 u22 u23 u24 u25 u26 u27 u28 u29 : Value), a = { tmps := #[.slice (some ⟨g, 0, none⟩) T.length cap, .func (.func fid) #[] #[p1], undef, undef, .slice none 0 0, .pointer (some ⟨w.heap.size, 0, none⟩), u6, u7, u8, .slice (some ⟨g, 0, none⟩) T.length cap, .int .i64 T.length, .int .i64 v, u12, u13, u14, u15, u16, u17, u18, u19, u20, u21, u22, u23, u24, u25, u26, u27, u28, u29], defers := marks Ds } ∧
      v ≤ T.length ∧ Hid (Bx W w.heap.size 67 u) ∧ Hid (TL W (w.heap.size + 1) u (preF F T v [])) ∧ Below w.heap.size w W ∧ DsOk Wb.heap.size W Ds ∧ Wb.heap.size ≤ W.heap.size) (fun a _ => T.length - (intOf (a.tmps.getD 11 undef)).toNat) ?h0 ?round
  case h0 =>
    exact ⟨0, [], .slice none 0 0, _, _, _, _, _, _, _, _, _, _, _, _, _, _, _, _, _, _, _, _, _, rfl, Nat.zero_le _, BXb, by show TL _ _ _ _; rw [preF_zero]; exact TL.nil _ _, hbb, ⟨List.nodup_nil, by simp⟩, Nat.le_refl _⟩
  case round =>
    rintro a W ⟨v, Ds, u, u6, u7, u8, u12, u13, u14, u15, u16, u17, u18, u19, u20, u21, u22, u23, u24, u25, u26, u27, u28, u29, rfl, hv, HX, HTL, hB, hD, hsw⟩
    by_cases hlt : v < T.length
    · have hlti : (v : Int) < T.length := by omega
      have hv0 : (0 : Int) ≤ v := by omega
      obtain ⟨ul, hcu, hou, hnu⟩ := HTS.out.at hlt
      have hcell : W.cell? ⟨g, v, none⟩ = some ul := (hB.cell (p := ⟨g, v, none⟩) hg).trans hcu
      have hOl := Lib.hid hou; have hNl := Lib.hid hnu
      clear hcu hou hnu
      obtain ⟨ua, uw, uc, rfl⟩ : ∃ x l c, ul = .slice x l c := by
        rcases hOl.out.form with ⟨rfl, _⟩ | ⟨b, cap, rfl, _⟩
        · exact ⟨_, _, _, rfl⟩
        · exact ⟨_, _, _, rfl⟩
      have hA := World.alloc_heap_new W (.cells #[.slice none 0 0] 22)
      have fA := frozen_of_row _ W.heap.size 0 _ _ hA
      have cA : (W.alloc (.cells #[.slice none 0 0] 22)).cell? ⟨W.heap.size, 0, none⟩ = some (.slice none 0 0) := by rw [cell_of_row _ W.heap.size 0 _ _ _ hA]; rfl
      gi_upto_region 5 with fail
      clear hA fA cA
      obtain ⟨W1, hW1⟩ : ∃ W1, W1 = W.alloc (.cells #[.slice ua uw uc] 22) := ⟨_, rfl⟩
      refine at_world (w' := W1) ?_ hW1.symm
      have s1 : W1.heap.size = W.heap.size + 1 := by rw [hW1]; simp
      have BY1 : Hid (Bx W1 W.heap.size 22 (.slice ua uw uc)) := by show Bx _ _ _ _; rw [hW1]; exact World.alloc_heap_new W _
      have hb1 : Below W.heap.size W W1 := by rw [hW1]; exact (Below.refl _ _).alloc (Nat.le_refl _) _
      have hB1 : Below w.heap.size w W1 := hB.trans (hb1.mono hB.size)
      clear hW1
      have cY := BY1.out.cell
      have hcl := HC.out v W1 (.slice ua uw uc) hlt hB1 (hOl.out.below hB1)
      obtain ⟨z, hz⟩ : ∃ z : Nat, z = F (elS T v) := ⟨_, rfl⟩
      rw [← hz] at hcl
      have hzl : z < 4611686018427387904 := by rw [hz]; exact (HEL.out v hlt).2
      have hCL := Lib.hid hcl; have HZ := Lib.hid hz
      clear hcl hz
      gi_wp2_with (first
        | (refine ⟨trivial, ?_⟩; gi_at_call 68; refine (callsIn_wide.2 (membersOf_any _ _)).mono ?_; rintro e w' ⟨rfl, rfl⟩)
        | (refine ⟨trivial, ?_⟩; with_reducible refine (callsIn_wide.2 hCL.out).mono ?_; rintro e W2 ⟨rfl, hb2⟩))
      have s2 := hb2.size
      obtain ⟨W3, hW3⟩ : ∃ W3, W3 = W2.alloc (.cells #[.int .i64 z] 2) := ⟨_, rfl⟩
      refine at_world (w' := W3) ?_ hW3.symm
      have s3 : W3.heap.size = W2.heap.size + 1 := by rw [hW3]; simp
      have hb3 : Below W1.heap.size W1 W3 := by rw [hW3]; exact hb2.alloc s2 _
      have hc3 : W3.cell? ⟨W2.heap.size, 0, none⟩ = some (.int .i64 z) := by rw [hW3]; have := World.cell?_alloc_new (w := W2) #[.int .i64 z] 2 0; rw [this]; rfl
      have hbw : Below W.heap.size W W3 := hb1.trans (hb3.mono (by omega))
      have hB3 : Below w.heap.size w W3 := hB.trans (hbw.mono hB.size)
      have hT3 : Tab W3 := HT0.out.belowAll hB3
      have BY3 : Hid (Bx W3 W.heap.size 22 (.slice ua uw uc)) := (hb3.block _ BY1.out.lt).trans BY1.out
      have HX3 : Hid (Bx W3 w.heap.size 67 u) := (hbw.block _ HX.out.lt).trans HX.out
      have HTL3 : Hid (TL W3 (w.heap.size + 1) u (preF F T v [])) := HTL.out.below hbw
      have hD3 : DsOk Wb.heap.size W3 Ds := hD.kept fun Dd hDd => hbw.block Dd (Array.getElem?_eq_some_iff.1 (hD.2 Dd hDd).2).1
      have hun : u.ownBlock ≠ some W.heap.size := fun e => by
        obtain ⟨cs, hcs⟩ := HTL.out
        have := (World.ownsRow.lt hcs.1.1 _ e).2
        omega
      have hpl := fun ys => preF_len F T v ys
      have hps := fun ys y => preF_snoc F T v ys y
      have hpn := preF_next F T v hlt
      obtain ⟨t, ht⟩ : ∃ t : List Int, t = elS T v := ⟨_, rfl⟩
      have HLT : Hid (t.length ≤ 61) := by rw [ht]; exact (HEL.out v hlt).1
      have hl61 := HLT.out
      have HOT : Hid (Own w B0 (.slice ua uw uc) t) := by rw [ht]; exact hOl.out
      have HNT : Hid (t = [] → Value.slice ua uw uc = .slice none 0 0) := by rw [ht]; exact hNl.out
      obtain ⟨P, hP⟩ : ∃ P : List Nat → List (List Int), P = fun ys => preF F T v ys := ⟨_, rfl⟩
      have HPL : Hid (∀ ys, (P ys).length ≤ 64 * T.length + ys.length) := by rw [hP]; exact hpl
      have HPS : Hid (∀ (ys : List Nat) (y : Nat), P (ys ++ [y]) = P ys ++ [t ++ [(y : Int)]]) := by rw [hP, ht]; exact hps
      have HPN : Hid (P (mem z) = preF F T (v + 1) []) := by show _ = _; rw [hP, HZ.out]; exact hpn
      have HP0 : Hid (TL W3 (w.heap.size + 1) u (P [])) := by show TL _ _ _ _; rw [hP]; exact HTL3.out
      have tw : w.heap.size ≤ W.heap.size := hB.size
      clear hW3 HX HTL hcell hOl hNl hpl hps hpn ht hP HTL3 HZ hCL hb1 hb2 hb3 cY BY1
      refine wpIn_rangeFunc_ownG (α := Mem z) rfl (by omega) (gf := 73) (lb := #[.pointer (some ⟨W2.heap.size, 0, none⟩)]) rfl trivial (enters_of Tryd.func73 (by kernel_rfl) rfl)
        (members_stops 4 (by omega) W2.heap.size w.heap.size z (by omega) W3 (by omega) hc3 hT3 hT0) belowK_t (belowK_b (by omega)) (Below.refl _ _) (fun _ => rfl)
        (fun pre W' => ∃ u, Hid (Bx W' w.heap.size 67 u) ∧ Hid (TL W' (w.heap.size + 1) u (P pre.unattach)) ∧ Hid (Bx W' W.heap.size 22 (.slice ua uw uc)) ∧ (∀ D, D ∈ Ds → W'.heap[D]? = some (.deferred (some []))) ∧ Below w.heap.size w W' ∧ W3.heap.size ≤ W'.heap.size ∧ u.ownBlock ≠ some W.heap.size)
        (fun _ _ _ => False)
        ?hI (fun _ _ _ _ _ hs _ _ => hs) ?h0 (fun y => { tmps := #[.slice (some ⟨g, 0, none⟩) T.length cap, .func (.func fid) #[] #[p1], undef, undef, .slice none 0 0, .pointer (some ⟨w.heap.size, 0, none⟩), u6, .pointer (some ⟨W.heap.size, 0, none⟩), .int .i64 y.1, .slice (some ⟨g, 0, none⟩) T.length cap, .int .i64 T.length, .int .i64 v, .bool true, .pointer (some ⟨g, v, none⟩), .slice ua uw uc, .func (.func fid) #[] #[p1], .slice ua uw uc, .int .i64 z, .func (.func 73) #[] #[.pointer (some ⟨W2.heap.size, 0, none⟩)], .int .i64 y.1, u20, u21, u22, u23, u24, u25, u26, u27, u28, u29], defers := [] }) ?assign ?body ?done ?stop
      case hI =>
        rintro pre A B row ⟨u, h1, h2, h3, h5, h6, h7, h8⟩ hg hr
        refine ⟨u, kept_rowP hg hr (by omega) h1.out, h2.out.kept hg (fun r e => (hr r e).2), kept_rowP hg hr (by omega) h3.out, fun D hD => kept_rowP hg hr ?_ (h5 D hD), h6.grown hg h6.size (fun k e => by have := (hr k e).1; omega), Nat.le_trans h7 hg.size, h8⟩
        exact (Array.getElem?_eq_some_iff.1 (hD3.2 D hD).2).1
      case h0 =>
        exact ⟨u, HX3, HP0, BY3, fun D hD => (hD3.2 D hD).2, hB3, Nat.le_refl _, hun⟩
      case assign =>
        intro l x W' K hK
        gi_wp2
        exact hK
      case body =>
        rintro l pre y W5 ⟨u, hbx, htl, hby, hD5, hB5, hs5, hne5⟩ hlen
        have cv := hbx.out.cell
        have cY := hby.out.cell
        have hEl := hbx.out.lt
        have hYl := hby.out.lt
        obtain ⟨cs, htc⟩ := htl.out
        have HTC := Lib.hid htc
        have hpre : pre.length ≤ 64 := by
          have h3 : (memL z).length = (mem z).length := by unfold memL; simp
          have h4 := mem_len64P z
          omega
        have hLpl : (P pre.unattach).length ≤ 64 * T.length + 64 := by
          have h2 : pre.unattach.length = pre.length := by simp
          have := HPL.out pre.unattach
          omega
        have HMAP : Hid (P (pre ++ [y]).unattach = P pre.unattach ++ [t ++ [(y.1 : Int)]]) := by
          show _ = _
          rw [List.unattach_append, show List.unattach [y] = [y.1] from rfl, HPS.out]
        obtain ⟨Lp, hLp⟩ : ∃ Lp, Lp = P pre.unattach := ⟨_, rfl⟩
        rw [← hLp] at htl hLpl HMAP HTC
        clear hLp htc hlen hpre
        obtain ⟨yv, hyv⟩ : ∃ yv : Nat, yv = y.1 := ⟨_, rfl⟩
        rw [← hyv] at HMAP ⊢
        clear hyv
        have HEND : Hid (∀ (w7 : World) (us : Value), Below W5.heap.size W5 w7 → Own w7 W5.heap.size us (t ++ [(yv : Int)]) → ∀ (gg cp : Nat) (w8 : World),
            w8.ownsRow (w.heap.size + 1) 22 1 (.slice (some ⟨gg, 0, none⟩) (Lp.length + 1) cp) (Lp.length + 1) (cs ++ [us]) → w7.grownBy w8 u.ownBlock → (u.ownBlock = some gg ∨ gg = w7.heap.size) →
            Bx w8 w.heap.size 67 u ∧ w8.cell? ⟨W.heap.size, 0, none⟩ = some (.slice ua uw uc) ∧ (w8.setCell ⟨w.heap.size, 0, none⟩ (.slice (some ⟨gg, 0, none⟩) (Lp.length + 1) cp)).cell? ⟨W.heap.size, 0, none⟩ = some (.slice ua uw uc) ∧
            (∀ C, KeepsFrom C W5 (w8.setCell ⟨w.heap.size, 0, none⟩ (.slice (some ⟨gg, 0, none⟩) (Lp.length + 1) cp))) ∧ (∀ B1, B1 ≤ w.heap.size → Below B1 W5 (w8.setCell ⟨w.heap.size, 0, none⟩ (.slice (some ⟨gg, 0, none⟩) (Lp.length + 1) cp))) ∧
            ∃ u', Hid (Bx (w8.setCell ⟨w.heap.size, 0, none⟩ (.slice (some ⟨gg, 0, none⟩) (Lp.length + 1) cp)) w.heap.size 67 u') ∧ Hid (TL (w8.setCell ⟨w.heap.size, 0, none⟩ (.slice (some ⟨gg, 0, none⟩) (Lp.length + 1) cp)) (w.heap.size + 1) u' (P (pre ++ [y]).unattach)) ∧ Hid (Bx (w8.setCell ⟨w.heap.size, 0, none⟩ (.slice (some ⟨gg, 0, none⟩) (Lp.length + 1) cp)) W.heap.size 22 (.slice ua uw uc)) ∧
              (∀ D, D ∈ Ds → (w8.setCell ⟨w.heap.size, 0, none⟩ (.slice (some ⟨gg, 0, none⟩) (Lp.length + 1) cp)).heap[D]? = some (.deferred (some []))) ∧ Below w.heap.size w (w8.setCell ⟨w.heap.size, 0, none⟩ (.slice (some ⟨gg, 0, none⟩) (Lp.length + 1) cp)) ∧ W3.heap.size ≤ (w8.setCell ⟨w.heap.size, 0, none⟩ (.slice (some ⟨gg, 0, none⟩) (Lp.length + 1) cp)).heap.size ∧ u'.ownBlock ≠ some W.heap.size) := by
          intro w7 us b7 hO7 gg cp w8 hown8 hgr8 hat8
          obtain ⟨q1, q2, q3, q4, q5, q6, q7⟩ := lg_end hbx.out (by omega) HTC.out (by omega) b7 hO7 (by simp) hown8 hgr8 hat8
          have hY := q6 _ hYl hne5
          have hs7 := b7.size
          have hY8 : Bx w8 W.heap.size 22 (.slice ua uw uc) := hY.1.trans hby.out
          have hY9 : Bx (w8.setCell ⟨w.heap.size, 0, none⟩ (.slice (some ⟨gg, 0, none⟩) (Lp.length + 1) cp)) W.heap.size 22 (.slice ua uw uc) := (hY.2 (by omega)).trans hby.out
          refine ⟨q1, hY8.cell, hY9.cell, q2, q5, _, q3, ?_, hY9, fun D hD => ?_, hB5.trans (q5 _ (Nat.le_refl _)), by omega, fun e => ?_⟩
          · show TL _ _ _ _
            rw [HMAP.out]; exact q4
          · have hDlt := (Array.getElem?_eq_some_iff.1 (hD5 D hD)).1
            exact ((q6 D hDlt (TL.notMark HTC.out hD5 D hD)).2 (by have := (hD3.2 D hD).1; omega)).trans (hD5 D hD)
          · obtain rfl : gg = W.heap.size := by simpa [Value.ownBlock] using e
            rcases hat8 with h | h
            · exact hne5 h
            · omega
        have hBd : Below W5.heap.size W5 W5.drew := (Below.refl _ _).drew
        have cd : W5.drew.cell? ⟨w.heap.size, 0, none⟩ = some u := cv
        have yd : W5.drew.cell? ⟨W.heap.size, 0, none⟩ = some (.slice ua uw uc) := cY
        have hmx : Tryd.prog.follows Departure.mixedOrders = true := mixedL
        have hs5' : w.heap.size + 1 ≤ W5.heap.size := by omega
        clear hbx htl hby hD5
        gi_wp2
        refine region_round (fun Z => Z.cell? ⟨W.heap.size, 0, none⟩ = some (.slice ua uw uc)) hmx (by kernel_rfl) yd (fun _ => ?_)
        show wpAnyH _ _ _ _ _ 9 (Array.replicate 9 false) _ _
        refine wpAnyH_take (i := 1) (v := .slice ua uw uc) rfl (by kernel_rfl) (by kernel_rfl) (by kernel_rfl) (fun _ _ _ h => h) (Or.inl ⟨by rfl, fun Wt hSw => by have h2 : Wt.cell? ⟨W.heap.size, 0, none⟩ = some (.slice ua uw uc) := hSw; go_simp⟩) yd ?_
        simp only [List.getElem_toArray, List.getElem_cons_zero, List.getElem_cons_succ, Act.put, List.setIfInBounds_toArray, List.set_cons_zero, List.set_cons_succ]
        refine wpAnyH_take (i := 3) (v := .int .i64 yv) rfl (by kernel_rfl) (by kernel_rfl) (by kernel_rfl) (fun _ _ _ h => h) (Or.inl ⟨by rfl, fun Wt hSw => by go_simp⟩) yd ?_
        simp only [List.getElem_toArray, List.getElem_cons_zero, List.getElem_cons_succ, Act.put, List.setIfInBounds_toArray, List.set_cons_zero, List.set_cons_succ]
        refine wpAnyH_ready (rs := [0, 2, 4]) (by kernel_rfl) (by simp) ?_
        refine AllReadyH.cons rfl (fun K hK => ?_) (AllReadyH.cons rfl (fun K hK => ?_) (AllReadyH.cons rfl (fun K hK => ?_) AllReadyH.nil))
        · go_simp
          refine hK.out _ _ yd (fun _ => ?_)
          clear hK K
          refine wpAnyH_ready (rs := [2, 4]) (by kernel_rfl) (by simp) ?_
          refine AllReadyH.cons rfl (fun K hK => ?_) (AllReadyH.cons rfl (fun K hK => ?_) AllReadyH.nil)
          · go_simp
            refine (clone_any B0 (.slice ua uw uc) t _ (HOT.out.below (hB5.trans (hBd.mono (by omega)))) HNT.out (by omega)).mono ?_
            rintro e wc2 ⟨⟨uk2, rfl, hOk2⟩, hbk2⟩
            obtain ⟨ka2, kl2, kc2, rfl⟩ := row_slice0 hOk2
            have B2 : Below W5.heap.size W5 wc2 := hBd.trans (hbk2.mono (hBd.size))
            have c2 := (B2.cell (p := ⟨w.heap.size, 0, none⟩) hEl).trans cv
            have y2 := (B2.cell (p := ⟨W.heap.size, 0, none⟩) hYl).trans cY
            have HOk2 := Lib.hid (hOk2.base (hBd.size))
            clear hOk2 hbk2
            refine hK.out _ _ y2 (fun _ => ?_)
            clear hK K
            refine wpAnyH_ready (rs := [4]) (by kernel_rfl) (by simp) ?_
            refine AllReadyH.cons rfl (fun K hK => ?_) AllReadyH.nil
            go_simp
            have B3 : Below W5.heap.size W5 (wc2.alloc (.cells #[.int .i64 yv] 2)) := B2.alloc B2.size _
            have c3 := (B3.cell (p := ⟨w.heap.size, 0, none⟩) hEl).trans cv
            have y3 := (B3.cell (p := ⟨W.heap.size, 0, none⟩) hYl).trans cY
            have hbs3 : Hid ((wc2.alloc (.cells #[.int .i64 yv] 2)).heap[wc2.heap.size]? = some (.cells #[.int .i64 yv] 2 (0, 0))) := World.alloc_heap_new wc2 _
            have HOk3 := Lib.hid (HOk2.out.below ((Below.refl _ wc2).alloc (Nat.le_refl _) (.cells #[.int .i64 yv] 2)))
            refine hK.out _ _ y3 (fun _ => ?_)
            clear hK K
            refine wpAnyH_ready (rs := [5]) (by kernel_rfl) (by simp) ?_
            refine AllReadyH.cons rfl (fun K hK => ?_) AllReadyH.nil
            refine step_append_lies _ (by rfl) (.tmp 22) (.tmp 24) 22 (by rfl) W5.heap.size 2 i0 (.int .i64 0) 1 8 Tryd.underlying22 HI.out HI0.out HI1.out HI2.out (by rfl) (by decide) (.slice ka2 kl2 kc2) t.length (t.map (Value.int .i64)) (by rfl) HOk3.out ⟨wc2.heap.size, 0, none⟩ 1 1 [.int .i64 yv] (by rfl) (by rfl) (World.news_of_block (cs := #[.int .i64 yv]) (t := 2) (fr := (0, 0)) hbs3.out) (ints_oneCell .i64 [(yv : Int)]) (by omega) (by unfold maxLen; omega) (by omega) (by have := B3.size; (try simp at this); (try simp); omega) _ rfl ?_
            intro ga4 cp4 wa4 hown4 hgr4 hat4 hlt4
            have hub4 : ∀ k, (Value.slice ka2 kl2 kc2).ownBlock = some k → W5.heap.size ≤ k := fun k e => HOk3.out.ge k e
            have B4 : Below W5.heap.size W5 wa4 := B3.grown hgr4 B3.size hub4
            have c4 := (B4.cell (p := ⟨w.heap.size, 0, none⟩) hEl).trans cv
            have y4 := (B4.cell (p := ⟨W.heap.size, 0, none⟩) hYl).trans cY
            have HOk4 : Hid (Own wa4 W5.heap.size (.slice (some ⟨ga4, 0, none⟩) (t.length + 1) cp4) (t ++ [(yv : Int)])) := own_snoc hown4
            clear hown4 hgr4 hat4 hub4
            refine hK.out _ _ y4 (fun _ => ?_)
            clear hK K
            refine wpAnyH_ready (rs := [6]) (by kernel_rfl) (by simp) ?_
            refine AllReadyH.cons rfl (fun K hK => ?_) AllReadyH.nil
            go_simp
            have B5 : Below W5.heap.size W5 (wa4.alloc (.cells #[(.slice (some ⟨ga4, 0, none⟩) (t.length + 1) cp4)] 22)) := B4.alloc B4.size _
            have c5 := (B5.cell (p := ⟨w.heap.size, 0, none⟩) hEl).trans cv
            have y5 := (B5.cell (p := ⟨W.heap.size, 0, none⟩) hYl).trans cY
            have HOk5 := Lib.hid (HOk4.out.below ((Below.refl _ wa4).alloc (Nat.le_refl _) (.cells #[(.slice (some ⟨ga4, 0, none⟩) (t.length + 1) cp4)] 22)))
            refine hK.out _ _ y5 (fun _ => ?_)
            clear hK K
            refine wpAnyH_ready (rs := [7]) (by kernel_rfl) (by simp) ?_
            refine AllReadyH.cons rfl (fun K hK => ?_) AllReadyH.nil
            refine step_append_lies _ (by rfl) (.tmp 20) (.tmp 26) 67 (by rfl) (w.heap.size + 1) 22 j0 (.slice none 0 0) 1 24 Tryd.underlying67 HJ.out HJ0.out HJ1.out HJ2.out (by rfl) (by decide) u Lp.length cs (by rfl) (HTC.out.below B5).1.1 ⟨wa4.heap.size, 0, none⟩ 1 1 [(.slice (some ⟨ga4, 0, none⟩) (t.length + 1) cp4)] (by rfl) (by rfl) (World.news_of_block (cs := #[(.slice (some ⟨ga4, 0, none⟩) (t.length + 1) cp4)]) (t := 22) (fr := (0, 0)) (World.alloc_heap_new wa4 _)) (by simp [Value.oneCell']) (by omega) (by unfold maxLen; omega) (by omega) (by have := B5.size; (try simp at this); (try simp); omega) _ rfl ?_
            intro gg cp w8 hown8 hgr8 hat8 hlt8
            obtain ⟨hbx8, hy8, hy9, hkf, hkp, hI8⟩ := HEND.out _ _ B5 HOk5.out gg cp w8 hown8 hgr8 hat8
            have c8 := hbx8.cell
            have f8 := hbx8.frozen
            have HKF := Lib.hid hkf; have HKP := Lib.hid hkp; have HI8 := Lib.hid hI8
            clear hbx8 hkf hkp hI8 hown8 hgr8 hat8 hlt8
            refine hK.out _ _ hy8 (fun _ => ?_)
            clear hK K
            refine wpAnyH_ready (rs := [8]) (by kernel_rfl) (by simp) ?_
            refine AllReadyH.cons rfl (fun K hK => ?_) AllReadyH.nil
            go_simp
            refine hK.out _ _ hy9 (fun _ => ?_)
            clear hK K
            refine wpAnyH_done (by kernel_rfl) ?_ _
            exact ⟨HKF.out _, HKP.out _ (by omega), HI8.out⟩
          · go_simp
            have B8 : Below W5.heap.size W5 (W5.drew.alloc (.cells #[.int .i64 yv] 2)) := hBd.alloc hBd.size _
            have c8 := (B8.cell (p := ⟨w.heap.size, 0, none⟩) hEl).trans cv
            have y8 := (B8.cell (p := ⟨W.heap.size, 0, none⟩) hYl).trans cY
            have hbs8 : Hid ((W5.drew.alloc (.cells #[.int .i64 yv] 2)).heap[W5.drew.heap.size]? = some (.cells #[.int .i64 yv] 2 (0, 0))) := World.alloc_heap_new W5.drew _
            refine hK.out _ _ y8 (fun _ => ?_)
            clear hK K
            refine wpAnyH_ready (rs := [2]) (by kernel_rfl) (by simp) ?_
            refine AllReadyH.cons rfl (fun K hK => ?_) AllReadyH.nil
            go_simp
            refine (clone_any B0 (.slice ua uw uc) t _ (HOT.out.below (hB5.trans (B8.mono (by omega)))) HNT.out (by omega)).mono ?_
            rintro e wc9 ⟨⟨uk9, rfl, hOk9⟩, hbk9⟩
            obtain ⟨ka9, kl9, kc9, rfl⟩ := row_slice0 hOk9
            have B9 : Below W5.heap.size W5 wc9 := B8.trans (hbk9.mono (B8.size))
            have c9 := (B9.cell (p := ⟨w.heap.size, 0, none⟩) hEl).trans cv
            have y9 := (B9.cell (p := ⟨W.heap.size, 0, none⟩) hYl).trans cY
            have HOk9 := Lib.hid (hOk9.base (B8.size))
            have hbs9 := Lib.hid ((hbk9.block _ (Array.getElem?_eq_some_iff.1 hbs8.out).1).trans hbs8.out)
            clear hOk9 hbk9
            refine hK.out _ _ y9 (fun _ => ?_)
            clear hK K
            refine wpAnyH_ready (rs := [5]) (by kernel_rfl) (by simp) ?_
            refine AllReadyH.cons rfl (fun K hK => ?_) AllReadyH.nil
            refine step_append_lies _ (by rfl) (.tmp 22) (.tmp 24) 22 (by rfl) W5.heap.size 2 i0 (.int .i64 0) 1 8 Tryd.underlying22 HI.out HI0.out HI1.out HI2.out (by rfl) (by decide) (.slice ka9 kl9 kc9) t.length (t.map (Value.int .i64)) (by rfl) HOk9.out ⟨W5.drew.heap.size, 0, none⟩ 1 1 [.int .i64 yv] (by rfl) (by rfl) (World.news_of_block (cs := #[.int .i64 yv]) (t := 2) (fr := (0, 0)) hbs9.out) (ints_oneCell .i64 [(yv : Int)]) (by omega) (by unfold maxLen; omega) (by omega) (by have := B9.size; (try simp at this); (try simp); omega) _ rfl ?_
            intro ga10 cp10 wa10 hown10 hgr10 hat10 hlt10
            have hub10 : ∀ k, (Value.slice ka9 kl9 kc9).ownBlock = some k → W5.heap.size ≤ k := fun k e => HOk9.out.ge k e
            have B10 : Below W5.heap.size W5 wa10 := B9.grown hgr10 B9.size hub10
            have c10 := (B10.cell (p := ⟨w.heap.size, 0, none⟩) hEl).trans cv
            have y10 := (B10.cell (p := ⟨W.heap.size, 0, none⟩) hYl).trans cY
            have HOk10 : Hid (Own wa10 W5.heap.size (.slice (some ⟨ga10, 0, none⟩) (t.length + 1) cp10) (t ++ [(yv : Int)])) := own_snoc hown10
            clear hown10 hgr10 hat10 hub10
            refine hK.out _ _ y10 (fun _ => ?_)
            clear hK K
            refine wpAnyH_ready (rs := [6]) (by kernel_rfl) (by simp) ?_
            refine AllReadyH.cons rfl (fun K hK => ?_) AllReadyH.nil
            go_simp
            have B11 : Below W5.heap.size W5 (wa10.alloc (.cells #[(.slice (some ⟨ga10, 0, none⟩) (t.length + 1) cp10)] 22)) := B10.alloc B10.size _
            have c11 := (B11.cell (p := ⟨w.heap.size, 0, none⟩) hEl).trans cv
            have y11 := (B11.cell (p := ⟨W.heap.size, 0, none⟩) hYl).trans cY
            have HOk11 := Lib.hid (HOk10.out.below ((Below.refl _ wa10).alloc (Nat.le_refl _) (.cells #[(.slice (some ⟨ga10, 0, none⟩) (t.length + 1) cp10)] 22)))
            refine hK.out _ _ y11 (fun _ => ?_)
            clear hK K
            refine wpAnyH_ready (rs := [7]) (by kernel_rfl) (by simp) ?_
            refine AllReadyH.cons rfl (fun K hK => ?_) AllReadyH.nil
            refine step_append_lies _ (by rfl) (.tmp 20) (.tmp 26) 67 (by rfl) (w.heap.size + 1) 22 j0 (.slice none 0 0) 1 24 Tryd.underlying67 HJ.out HJ0.out HJ1.out HJ2.out (by rfl) (by decide) u Lp.length cs (by rfl) (HTC.out.below B11).1.1 ⟨wa10.heap.size, 0, none⟩ 1 1 [(.slice (some ⟨ga10, 0, none⟩) (t.length + 1) cp10)] (by rfl) (by rfl) (World.news_of_block (cs := #[(.slice (some ⟨ga10, 0, none⟩) (t.length + 1) cp10)]) (t := 22) (fr := (0, 0)) (World.alloc_heap_new wa10 _)) (by simp [Value.oneCell']) (by omega) (by unfold maxLen; omega) (by omega) (by have := B11.size; (try simp at this); (try simp); omega) _ rfl ?_
            intro gg cp w8 hown8 hgr8 hat8 hlt8
            obtain ⟨hbx8, hy8, hy9, hkf, hkp, hI8⟩ := HEND.out _ _ B11 HOk11.out gg cp w8 hown8 hgr8 hat8
            have c8 := hbx8.cell
            have f8 := hbx8.frozen
            have HKF := Lib.hid hkf; have HKP := Lib.hid hkp; have HI8 := Lib.hid hI8
            clear hbx8 hkf hkp hI8 hown8 hgr8 hat8 hlt8
            refine hK.out _ _ hy8 (fun _ => ?_)
            clear hK K
            refine wpAnyH_ready (rs := [8]) (by kernel_rfl) (by simp) ?_
            refine AllReadyH.cons rfl (fun K hK => ?_) AllReadyH.nil
            go_simp
            refine hK.out _ _ hy9 (fun _ => ?_)
            clear hK K
            refine wpAnyH_done (by kernel_rfl) ?_ _
            exact ⟨HKF.out _, HKP.out _ (by omega), HI8.out⟩
        · go_simp
          refine (clone_any B0 (.slice ua uw uc) t _ (HOT.out.below (hB5.trans (hBd.mono (by omega)))) HNT.out (by omega)).mono ?_
          rintro e wc14 ⟨⟨uk14, rfl, hOk14⟩, hbk14⟩
          obtain ⟨ka14, kl14, kc14, rfl⟩ := row_slice0 hOk14
          have B14 : Below W5.heap.size W5 wc14 := hBd.trans (hbk14.mono (hBd.size))
          have c14 := (B14.cell (p := ⟨w.heap.size, 0, none⟩) hEl).trans cv
          have y14 := (B14.cell (p := ⟨W.heap.size, 0, none⟩) hYl).trans cY
          have HOk14 := Lib.hid (hOk14.base (hBd.size))
          clear hOk14 hbk14
          refine hK.out _ _ y14 (fun _ => ?_)
          clear hK K
          refine wpAnyH_ready (rs := [0, 4]) (by kernel_rfl) (by simp) ?_
          refine AllReadyH.cons rfl (fun K hK => ?_) (AllReadyH.cons rfl (fun K hK => ?_) AllReadyH.nil)
          · go_simp
            refine hK.out _ _ y14 (fun _ => ?_)
            clear hK K
            refine wpAnyH_ready (rs := [4]) (by kernel_rfl) (by simp) ?_
            refine AllReadyH.cons rfl (fun K hK => ?_) AllReadyH.nil
            go_simp
            have B16 : Below W5.heap.size W5 (wc14.alloc (.cells #[.int .i64 yv] 2)) := B14.alloc B14.size _
            have c16 := (B16.cell (p := ⟨w.heap.size, 0, none⟩) hEl).trans cv
            have y16 := (B16.cell (p := ⟨W.heap.size, 0, none⟩) hYl).trans cY
            have hbs16 : Hid ((wc14.alloc (.cells #[.int .i64 yv] 2)).heap[wc14.heap.size]? = some (.cells #[.int .i64 yv] 2 (0, 0))) := World.alloc_heap_new wc14 _
            have HOk16 := Lib.hid (HOk14.out.below ((Below.refl _ wc14).alloc (Nat.le_refl _) (.cells #[.int .i64 yv] 2)))
            refine hK.out _ _ y16 (fun _ => ?_)
            clear hK K
            refine wpAnyH_ready (rs := [5]) (by kernel_rfl) (by simp) ?_
            refine AllReadyH.cons rfl (fun K hK => ?_) AllReadyH.nil
            refine step_append_lies _ (by rfl) (.tmp 22) (.tmp 24) 22 (by rfl) W5.heap.size 2 i0 (.int .i64 0) 1 8 Tryd.underlying22 HI.out HI0.out HI1.out HI2.out (by rfl) (by decide) (.slice ka14 kl14 kc14) t.length (t.map (Value.int .i64)) (by rfl) HOk16.out ⟨wc14.heap.size, 0, none⟩ 1 1 [.int .i64 yv] (by rfl) (by rfl) (World.news_of_block (cs := #[.int .i64 yv]) (t := 2) (fr := (0, 0)) hbs16.out) (ints_oneCell .i64 [(yv : Int)]) (by omega) (by unfold maxLen; omega) (by omega) (by have := B16.size; (try simp at this); (try simp); omega) _ rfl ?_
            intro ga17 cp17 wa17 hown17 hgr17 hat17 hlt17
            have hub17 : ∀ k, (Value.slice ka14 kl14 kc14).ownBlock = some k → W5.heap.size ≤ k := fun k e => HOk16.out.ge k e
            have B17 : Below W5.heap.size W5 wa17 := B16.grown hgr17 B16.size hub17
            have c17 := (B17.cell (p := ⟨w.heap.size, 0, none⟩) hEl).trans cv
            have y17 := (B17.cell (p := ⟨W.heap.size, 0, none⟩) hYl).trans cY
            have HOk17 : Hid (Own wa17 W5.heap.size (.slice (some ⟨ga17, 0, none⟩) (t.length + 1) cp17) (t ++ [(yv : Int)])) := own_snoc hown17
            clear hown17 hgr17 hat17 hub17
            refine hK.out _ _ y17 (fun _ => ?_)
            clear hK K
            refine wpAnyH_ready (rs := [6]) (by kernel_rfl) (by simp) ?_
            refine AllReadyH.cons rfl (fun K hK => ?_) AllReadyH.nil
            go_simp
            have B18 : Below W5.heap.size W5 (wa17.alloc (.cells #[(.slice (some ⟨ga17, 0, none⟩) (t.length + 1) cp17)] 22)) := B17.alloc B17.size _
            have c18 := (B18.cell (p := ⟨w.heap.size, 0, none⟩) hEl).trans cv
            have y18 := (B18.cell (p := ⟨W.heap.size, 0, none⟩) hYl).trans cY
            have HOk18 := Lib.hid (HOk17.out.below ((Below.refl _ wa17).alloc (Nat.le_refl _) (.cells #[(.slice (some ⟨ga17, 0, none⟩) (t.length + 1) cp17)] 22)))
            refine hK.out _ _ y18 (fun _ => ?_)
            clear hK K
            refine wpAnyH_ready (rs := [7]) (by kernel_rfl) (by simp) ?_
            refine AllReadyH.cons rfl (fun K hK => ?_) AllReadyH.nil
            refine step_append_lies _ (by rfl) (.tmp 20) (.tmp 26) 67 (by rfl) (w.heap.size + 1) 22 j0 (.slice none 0 0) 1 24 Tryd.underlying67 HJ.out HJ0.out HJ1.out HJ2.out (by rfl) (by decide) u Lp.length cs (by rfl) (HTC.out.below B18).1.1 ⟨wa17.heap.size, 0, none⟩ 1 1 [(.slice (some ⟨ga17, 0, none⟩) (t.length + 1) cp17)] (by rfl) (by rfl) (World.news_of_block (cs := #[(.slice (some ⟨ga17, 0, none⟩) (t.length + 1) cp17)]) (t := 22) (fr := (0, 0)) (World.alloc_heap_new wa17 _)) (by simp [Value.oneCell']) (by omega) (by unfold maxLen; omega) (by omega) (by have := B18.size; (try simp at this); (try simp); omega) _ rfl ?_
            intro gg cp w8 hown8 hgr8 hat8 hlt8
            obtain ⟨hbx8, hy8, hy9, hkf, hkp, hI8⟩ := HEND.out _ _ B18 HOk18.out gg cp w8 hown8 hgr8 hat8
            have c8 := hbx8.cell
            have f8 := hbx8.frozen
            have HKF := Lib.hid hkf; have HKP := Lib.hid hkp; have HI8 := Lib.hid hI8
            clear hbx8 hkf hkp hI8 hown8 hgr8 hat8 hlt8
            refine hK.out _ _ hy8 (fun _ => ?_)
            clear hK K
            refine wpAnyH_ready (rs := [8]) (by kernel_rfl) (by simp) ?_
            refine AllReadyH.cons rfl (fun K hK => ?_) AllReadyH.nil
            go_simp
            refine hK.out _ _ hy9 (fun _ => ?_)
            clear hK K
            refine wpAnyH_done (by kernel_rfl) ?_ _
            exact ⟨HKF.out _, HKP.out _ (by omega), HI8.out⟩
          · go_simp
            have B21 : Below W5.heap.size W5 (wc14.alloc (.cells #[.int .i64 yv] 2)) := B14.alloc B14.size _
            have c21 := (B21.cell (p := ⟨w.heap.size, 0, none⟩) hEl).trans cv
            have y21 := (B21.cell (p := ⟨W.heap.size, 0, none⟩) hYl).trans cY
            have hbs21 : Hid ((wc14.alloc (.cells #[.int .i64 yv] 2)).heap[wc14.heap.size]? = some (.cells #[.int .i64 yv] 2 (0, 0))) := World.alloc_heap_new wc14 _
            have HOk21 := Lib.hid (HOk14.out.below ((Below.refl _ wc14).alloc (Nat.le_refl _) (.cells #[.int .i64 yv] 2)))
            refine hK.out _ _ y21 (fun _ => ?_)
            clear hK K
            refine wpAnyH_ready (rs := [0, 5]) (by kernel_rfl) (by simp) ?_
            refine AllReadyH.cons rfl (fun K hK => ?_) (AllReadyH.cons rfl (fun K hK => ?_) AllReadyH.nil)
            · go_simp
              refine hK.out _ _ y21 (fun _ => ?_)
              clear hK K
              refine wpAnyH_ready (rs := [5]) (by kernel_rfl) (by simp) ?_
              refine AllReadyH.cons rfl (fun K hK => ?_) AllReadyH.nil
              refine step_append_lies _ (by rfl) (.tmp 22) (.tmp 24) 22 (by rfl) W5.heap.size 2 i0 (.int .i64 0) 1 8 Tryd.underlying22 HI.out HI0.out HI1.out HI2.out (by rfl) (by decide) (.slice ka14 kl14 kc14) t.length (t.map (Value.int .i64)) (by rfl) HOk21.out ⟨wc14.heap.size, 0, none⟩ 1 1 [.int .i64 yv] (by rfl) (by rfl) (World.news_of_block (cs := #[.int .i64 yv]) (t := 2) (fr := (0, 0)) hbs21.out) (ints_oneCell .i64 [(yv : Int)]) (by omega) (by unfold maxLen; omega) (by omega) (by have := B21.size; (try simp at this); (try simp); omega) _ rfl ?_
              intro ga23 cp23 wa23 hown23 hgr23 hat23 hlt23
              have hub23 : ∀ k, (Value.slice ka14 kl14 kc14).ownBlock = some k → W5.heap.size ≤ k := fun k e => HOk21.out.ge k e
              have B23 : Below W5.heap.size W5 wa23 := B21.grown hgr23 B21.size hub23
              have c23 := (B23.cell (p := ⟨w.heap.size, 0, none⟩) hEl).trans cv
              have y23 := (B23.cell (p := ⟨W.heap.size, 0, none⟩) hYl).trans cY
              have HOk23 : Hid (Own wa23 W5.heap.size (.slice (some ⟨ga23, 0, none⟩) (t.length + 1) cp23) (t ++ [(yv : Int)])) := own_snoc hown23
              clear hown23 hgr23 hat23 hub23
              refine hK.out _ _ y23 (fun _ => ?_)
              clear hK K
              refine wpAnyH_ready (rs := [6]) (by kernel_rfl) (by simp) ?_
              refine AllReadyH.cons rfl (fun K hK => ?_) AllReadyH.nil
              go_simp
              have B24 : Below W5.heap.size W5 (wa23.alloc (.cells #[(.slice (some ⟨ga23, 0, none⟩) (t.length + 1) cp23)] 22)) := B23.alloc B23.size _
              have c24 := (B24.cell (p := ⟨w.heap.size, 0, none⟩) hEl).trans cv
              have y24 := (B24.cell (p := ⟨W.heap.size, 0, none⟩) hYl).trans cY
              have HOk24 := Lib.hid (HOk23.out.below ((Below.refl _ wa23).alloc (Nat.le_refl _) (.cells #[(.slice (some ⟨ga23, 0, none⟩) (t.length + 1) cp23)] 22)))
              refine hK.out _ _ y24 (fun _ => ?_)
              clear hK K
              refine wpAnyH_ready (rs := [7]) (by kernel_rfl) (by simp) ?_
              refine AllReadyH.cons rfl (fun K hK => ?_) AllReadyH.nil
              refine step_append_lies _ (by rfl) (.tmp 20) (.tmp 26) 67 (by rfl) (w.heap.size + 1) 22 j0 (.slice none 0 0) 1 24 Tryd.underlying67 HJ.out HJ0.out HJ1.out HJ2.out (by rfl) (by decide) u Lp.length cs (by rfl) (HTC.out.below B24).1.1 ⟨wa23.heap.size, 0, none⟩ 1 1 [(.slice (some ⟨ga23, 0, none⟩) (t.length + 1) cp23)] (by rfl) (by rfl) (World.news_of_block (cs := #[(.slice (some ⟨ga23, 0, none⟩) (t.length + 1) cp23)]) (t := 22) (fr := (0, 0)) (World.alloc_heap_new wa23 _)) (by simp [Value.oneCell']) (by omega) (by unfold maxLen; omega) (by omega) (by have := B24.size; (try simp at this); (try simp); omega) _ rfl ?_
              intro gg cp w8 hown8 hgr8 hat8 hlt8
              obtain ⟨hbx8, hy8, hy9, hkf, hkp, hI8⟩ := HEND.out _ _ B24 HOk24.out gg cp w8 hown8 hgr8 hat8
              have c8 := hbx8.cell
              have f8 := hbx8.frozen
              have HKF := Lib.hid hkf; have HKP := Lib.hid hkp; have HI8 := Lib.hid hI8
              clear hbx8 hkf hkp hI8 hown8 hgr8 hat8 hlt8
              refine hK.out _ _ hy8 (fun _ => ?_)
              clear hK K
              refine wpAnyH_ready (rs := [8]) (by kernel_rfl) (by simp) ?_
              refine AllReadyH.cons rfl (fun K hK => ?_) AllReadyH.nil
              go_simp
              refine hK.out _ _ hy9 (fun _ => ?_)
              clear hK K
              refine wpAnyH_done (by kernel_rfl) ?_ _
              exact ⟨HKF.out _, HKP.out _ (by omega), HI8.out⟩
            · refine step_append_lies _ (by rfl) (.tmp 22) (.tmp 24) 22 (by rfl) W5.heap.size 2 i0 (.int .i64 0) 1 8 Tryd.underlying22 HI.out HI0.out HI1.out HI2.out (by rfl) (by decide) (.slice ka14 kl14 kc14) t.length (t.map (Value.int .i64)) (by rfl) HOk21.out ⟨wc14.heap.size, 0, none⟩ 1 1 [.int .i64 yv] (by rfl) (by rfl) (World.news_of_block (cs := #[.int .i64 yv]) (t := 2) (fr := (0, 0)) hbs21.out) (ints_oneCell .i64 [(yv : Int)]) (by omega) (by unfold maxLen; omega) (by omega) (by have := B21.size; (try simp at this); (try simp); omega) _ rfl ?_
              intro ga27 cp27 wa27 hown27 hgr27 hat27 hlt27
              have hub27 : ∀ k, (Value.slice ka14 kl14 kc14).ownBlock = some k → W5.heap.size ≤ k := fun k e => HOk21.out.ge k e
              have B27 : Below W5.heap.size W5 wa27 := B21.grown hgr27 B21.size hub27
              have c27 := (B27.cell (p := ⟨w.heap.size, 0, none⟩) hEl).trans cv
              have y27 := (B27.cell (p := ⟨W.heap.size, 0, none⟩) hYl).trans cY
              have HOk27 : Hid (Own wa27 W5.heap.size (.slice (some ⟨ga27, 0, none⟩) (t.length + 1) cp27) (t ++ [(yv : Int)])) := own_snoc hown27
              clear hown27 hgr27 hat27 hub27
              refine hK.out _ _ y27 (fun _ => ?_)
              clear hK K
              refine wpAnyH_ready (rs := [0, 6]) (by kernel_rfl) (by simp) ?_
              refine AllReadyH.cons rfl (fun K hK => ?_) (AllReadyH.cons rfl (fun K hK => ?_) AllReadyH.nil)
              · go_simp
                refine hK.out _ _ y27 (fun _ => ?_)
                clear hK K
                refine wpAnyH_ready (rs := [6]) (by kernel_rfl) (by simp) ?_
                refine AllReadyH.cons rfl (fun K hK => ?_) AllReadyH.nil
                go_simp
                have B29 : Below W5.heap.size W5 (wa27.alloc (.cells #[(.slice (some ⟨ga27, 0, none⟩) (t.length + 1) cp27)] 22)) := B27.alloc B27.size _
                have c29 := (B29.cell (p := ⟨w.heap.size, 0, none⟩) hEl).trans cv
                have y29 := (B29.cell (p := ⟨W.heap.size, 0, none⟩) hYl).trans cY
                have HOk29 := Lib.hid (HOk27.out.below ((Below.refl _ wa27).alloc (Nat.le_refl _) (.cells #[(.slice (some ⟨ga27, 0, none⟩) (t.length + 1) cp27)] 22)))
                refine hK.out _ _ y29 (fun _ => ?_)
                clear hK K
                refine wpAnyH_ready (rs := [7]) (by kernel_rfl) (by simp) ?_
                refine AllReadyH.cons rfl (fun K hK => ?_) AllReadyH.nil
                refine step_append_lies _ (by rfl) (.tmp 20) (.tmp 26) 67 (by rfl) (w.heap.size + 1) 22 j0 (.slice none 0 0) 1 24 Tryd.underlying67 HJ.out HJ0.out HJ1.out HJ2.out (by rfl) (by decide) u Lp.length cs (by rfl) (HTC.out.below B29).1.1 ⟨wa27.heap.size, 0, none⟩ 1 1 [(.slice (some ⟨ga27, 0, none⟩) (t.length + 1) cp27)] (by rfl) (by rfl) (World.news_of_block (cs := #[(.slice (some ⟨ga27, 0, none⟩) (t.length + 1) cp27)]) (t := 22) (fr := (0, 0)) (World.alloc_heap_new wa27 _)) (by simp [Value.oneCell']) (by omega) (by unfold maxLen; omega) (by omega) (by have := B29.size; (try simp at this); (try simp); omega) _ rfl ?_
                intro gg cp w8 hown8 hgr8 hat8 hlt8
                obtain ⟨hbx8, hy8, hy9, hkf, hkp, hI8⟩ := HEND.out _ _ B29 HOk29.out gg cp w8 hown8 hgr8 hat8
                have c8 := hbx8.cell
                have f8 := hbx8.frozen
                have HKF := Lib.hid hkf; have HKP := Lib.hid hkp; have HI8 := Lib.hid hI8
                clear hbx8 hkf hkp hI8 hown8 hgr8 hat8 hlt8
                refine hK.out _ _ hy8 (fun _ => ?_)
                clear hK K
                refine wpAnyH_ready (rs := [8]) (by kernel_rfl) (by simp) ?_
                refine AllReadyH.cons rfl (fun K hK => ?_) AllReadyH.nil
                go_simp
                refine hK.out _ _ hy9 (fun _ => ?_)
                clear hK K
                refine wpAnyH_done (by kernel_rfl) ?_ _
                exact ⟨HKF.out _, HKP.out _ (by omega), HI8.out⟩
              · go_simp
                have B32 : Below W5.heap.size W5 (wa27.alloc (.cells #[(.slice (some ⟨ga27, 0, none⟩) (t.length + 1) cp27)] 22)) := B27.alloc B27.size _
                have c32 := (B32.cell (p := ⟨w.heap.size, 0, none⟩) hEl).trans cv
                have y32 := (B32.cell (p := ⟨W.heap.size, 0, none⟩) hYl).trans cY
                have HOk32 := Lib.hid (HOk27.out.below ((Below.refl _ wa27).alloc (Nat.le_refl _) (.cells #[(.slice (some ⟨ga27, 0, none⟩) (t.length + 1) cp27)] 22)))
                refine hK.out _ _ y32 (fun _ => ?_)
                clear hK K
                refine wpAnyH_ready (rs := [0]) (by kernel_rfl) (by simp) ?_
                refine AllReadyH.cons rfl (fun K hK => ?_) AllReadyH.nil
                go_simp
                refine hK.out _ _ y32 (fun _ => ?_)
                clear hK K
                refine wpAnyH_ready (rs := [7]) (by kernel_rfl) (by simp) ?_
                refine AllReadyH.cons rfl (fun K hK => ?_) AllReadyH.nil
                refine step_append_lies _ (by rfl) (.tmp 20) (.tmp 26) 67 (by rfl) (w.heap.size + 1) 22 j0 (.slice none 0 0) 1 24 Tryd.underlying67 HJ.out HJ0.out HJ1.out HJ2.out (by rfl) (by decide) u Lp.length cs (by rfl) (HTC.out.below B32).1.1 ⟨wa27.heap.size, 0, none⟩ 1 1 [(.slice (some ⟨ga27, 0, none⟩) (t.length + 1) cp27)] (by rfl) (by rfl) (World.news_of_block (cs := #[(.slice (some ⟨ga27, 0, none⟩) (t.length + 1) cp27)]) (t := 22) (fr := (0, 0)) (World.alloc_heap_new wa27 _)) (by simp [Value.oneCell']) (by omega) (by unfold maxLen; omega) (by omega) (by have := B32.size; (try simp at this); (try simp); omega) _ rfl ?_
                intro gg cp w8 hown8 hgr8 hat8 hlt8
                obtain ⟨hbx8, hy8, hy9, hkf, hkp, hI8⟩ := HEND.out _ _ B32 HOk32.out gg cp w8 hown8 hgr8 hat8
                have c8 := hbx8.cell
                have f8 := hbx8.frozen
                have HKF := Lib.hid hkf; have HKP := Lib.hid hkp; have HI8 := Lib.hid hI8
                clear hbx8 hkf hkp hI8 hown8 hgr8 hat8 hlt8
                refine hK.out _ _ hy8 (fun _ => ?_)
                clear hK K
                refine wpAnyH_ready (rs := [8]) (by kernel_rfl) (by simp) ?_
                refine AllReadyH.cons rfl (fun K hK => ?_) AllReadyH.nil
                go_simp
                refine hK.out _ _ hy9 (fun _ => ?_)
                clear hK K
                refine wpAnyH_done (by kernel_rfl) ?_ _
                exact ⟨HKF.out _, HKP.out _ (by omega), HI8.out⟩
        · go_simp
          have B36 : Below W5.heap.size W5 (W5.drew.alloc (.cells #[.int .i64 yv] 2)) := hBd.alloc hBd.size _
          have c36 := (B36.cell (p := ⟨w.heap.size, 0, none⟩) hEl).trans cv
          have y36 := (B36.cell (p := ⟨W.heap.size, 0, none⟩) hYl).trans cY
          have hbs36 : Hid ((W5.drew.alloc (.cells #[.int .i64 yv] 2)).heap[W5.drew.heap.size]? = some (.cells #[.int .i64 yv] 2 (0, 0))) := World.alloc_heap_new W5.drew _
          refine hK.out _ _ y36 (fun _ => ?_)
          clear hK K
          refine wpAnyH_ready (rs := [0, 2]) (by kernel_rfl) (by simp) ?_
          refine AllReadyH.cons rfl (fun K hK => ?_) (AllReadyH.cons rfl (fun K hK => ?_) AllReadyH.nil)
          · go_simp
            refine hK.out _ _ y36 (fun _ => ?_)
            clear hK K
            refine wpAnyH_ready (rs := [2]) (by kernel_rfl) (by simp) ?_
            refine AllReadyH.cons rfl (fun K hK => ?_) AllReadyH.nil
            go_simp
            refine (clone_any B0 (.slice ua uw uc) t _ (HOT.out.below (hB5.trans (B36.mono (by omega)))) HNT.out (by omega)).mono ?_
            rintro e wc38 ⟨⟨uk38, rfl, hOk38⟩, hbk38⟩
            obtain ⟨ka38, kl38, kc38, rfl⟩ := row_slice0 hOk38
            have B38 : Below W5.heap.size W5 wc38 := B36.trans (hbk38.mono (B36.size))
            have c38 := (B38.cell (p := ⟨w.heap.size, 0, none⟩) hEl).trans cv
            have y38 := (B38.cell (p := ⟨W.heap.size, 0, none⟩) hYl).trans cY
            have HOk38 := Lib.hid (hOk38.base (B36.size))
            have hbs38 := Lib.hid ((hbk38.block _ (Array.getElem?_eq_some_iff.1 hbs36.out).1).trans hbs36.out)
            clear hOk38 hbk38
            refine hK.out _ _ y38 (fun _ => ?_)
            clear hK K
            refine wpAnyH_ready (rs := [5]) (by kernel_rfl) (by simp) ?_
            refine AllReadyH.cons rfl (fun K hK => ?_) AllReadyH.nil
            refine step_append_lies _ (by rfl) (.tmp 22) (.tmp 24) 22 (by rfl) W5.heap.size 2 i0 (.int .i64 0) 1 8 Tryd.underlying22 HI.out HI0.out HI1.out HI2.out (by rfl) (by decide) (.slice ka38 kl38 kc38) t.length (t.map (Value.int .i64)) (by rfl) HOk38.out ⟨W5.drew.heap.size, 0, none⟩ 1 1 [.int .i64 yv] (by rfl) (by rfl) (World.news_of_block (cs := #[.int .i64 yv]) (t := 2) (fr := (0, 0)) hbs38.out) (ints_oneCell .i64 [(yv : Int)]) (by omega) (by unfold maxLen; omega) (by omega) (by have := B38.size; (try simp at this); (try simp); omega) _ rfl ?_
            intro ga39 cp39 wa39 hown39 hgr39 hat39 hlt39
            have hub39 : ∀ k, (Value.slice ka38 kl38 kc38).ownBlock = some k → W5.heap.size ≤ k := fun k e => HOk38.out.ge k e
            have B39 : Below W5.heap.size W5 wa39 := B38.grown hgr39 B38.size hub39
            have c39 := (B39.cell (p := ⟨w.heap.size, 0, none⟩) hEl).trans cv
            have y39 := (B39.cell (p := ⟨W.heap.size, 0, none⟩) hYl).trans cY
            have HOk39 : Hid (Own wa39 W5.heap.size (.slice (some ⟨ga39, 0, none⟩) (t.length + 1) cp39) (t ++ [(yv : Int)])) := own_snoc hown39
            clear hown39 hgr39 hat39 hub39
            refine hK.out _ _ y39 (fun _ => ?_)
            clear hK K
            refine wpAnyH_ready (rs := [6]) (by kernel_rfl) (by simp) ?_
            refine AllReadyH.cons rfl (fun K hK => ?_) AllReadyH.nil
            go_simp
            have B40 : Below W5.heap.size W5 (wa39.alloc (.cells #[(.slice (some ⟨ga39, 0, none⟩) (t.length + 1) cp39)] 22)) := B39.alloc B39.size _
            have c40 := (B40.cell (p := ⟨w.heap.size, 0, none⟩) hEl).trans cv
            have y40 := (B40.cell (p := ⟨W.heap.size, 0, none⟩) hYl).trans cY
            have HOk40 := Lib.hid (HOk39.out.below ((Below.refl _ wa39).alloc (Nat.le_refl _) (.cells #[(.slice (some ⟨ga39, 0, none⟩) (t.length + 1) cp39)] 22)))
            refine hK.out _ _ y40 (fun _ => ?_)
            clear hK K
            refine wpAnyH_ready (rs := [7]) (by kernel_rfl) (by simp) ?_
            refine AllReadyH.cons rfl (fun K hK => ?_) AllReadyH.nil
            refine step_append_lies _ (by rfl) (.tmp 20) (.tmp 26) 67 (by rfl) (w.heap.size + 1) 22 j0 (.slice none 0 0) 1 24 Tryd.underlying67 HJ.out HJ0.out HJ1.out HJ2.out (by rfl) (by decide) u Lp.length cs (by rfl) (HTC.out.below B40).1.1 ⟨wa39.heap.size, 0, none⟩ 1 1 [(.slice (some ⟨ga39, 0, none⟩) (t.length + 1) cp39)] (by rfl) (by rfl) (World.news_of_block (cs := #[(.slice (some ⟨ga39, 0, none⟩) (t.length + 1) cp39)]) (t := 22) (fr := (0, 0)) (World.alloc_heap_new wa39 _)) (by simp [Value.oneCell']) (by omega) (by unfold maxLen; omega) (by omega) (by have := B40.size; (try simp at this); (try simp); omega) _ rfl ?_
            intro gg cp w8 hown8 hgr8 hat8 hlt8
            obtain ⟨hbx8, hy8, hy9, hkf, hkp, hI8⟩ := HEND.out _ _ B40 HOk40.out gg cp w8 hown8 hgr8 hat8
            have c8 := hbx8.cell
            have f8 := hbx8.frozen
            have HKF := Lib.hid hkf; have HKP := Lib.hid hkp; have HI8 := Lib.hid hI8
            clear hbx8 hkf hkp hI8 hown8 hgr8 hat8 hlt8
            refine hK.out _ _ hy8 (fun _ => ?_)
            clear hK K
            refine wpAnyH_ready (rs := [8]) (by kernel_rfl) (by simp) ?_
            refine AllReadyH.cons rfl (fun K hK => ?_) AllReadyH.nil
            go_simp
            refine hK.out _ _ hy9 (fun _ => ?_)
            clear hK K
            refine wpAnyH_done (by kernel_rfl) ?_ _
            exact ⟨HKF.out _, HKP.out _ (by omega), HI8.out⟩
          · go_simp
            refine (clone_any B0 (.slice ua uw uc) t _ (HOT.out.below (hB5.trans (B36.mono (by omega)))) HNT.out (by omega)).mono ?_
            rintro e wc43 ⟨⟨uk43, rfl, hOk43⟩, hbk43⟩
            obtain ⟨ka43, kl43, kc43, rfl⟩ := row_slice0 hOk43
            have B43 : Below W5.heap.size W5 wc43 := B36.trans (hbk43.mono (B36.size))
            have c43 := (B43.cell (p := ⟨w.heap.size, 0, none⟩) hEl).trans cv
            have y43 := (B43.cell (p := ⟨W.heap.size, 0, none⟩) hYl).trans cY
            have HOk43 := Lib.hid (hOk43.base (B36.size))
            have hbs43 := Lib.hid ((hbk43.block _ (Array.getElem?_eq_some_iff.1 hbs36.out).1).trans hbs36.out)
            clear hOk43 hbk43
            refine hK.out _ _ y43 (fun _ => ?_)
            clear hK K
            refine wpAnyH_ready (rs := [0, 5]) (by kernel_rfl) (by simp) ?_
            refine AllReadyH.cons rfl (fun K hK => ?_) (AllReadyH.cons rfl (fun K hK => ?_) AllReadyH.nil)
            · go_simp
              refine hK.out _ _ y43 (fun _ => ?_)
              clear hK K
              refine wpAnyH_ready (rs := [5]) (by kernel_rfl) (by simp) ?_
              refine AllReadyH.cons rfl (fun K hK => ?_) AllReadyH.nil
              refine step_append_lies _ (by rfl) (.tmp 22) (.tmp 24) 22 (by rfl) W5.heap.size 2 i0 (.int .i64 0) 1 8 Tryd.underlying22 HI.out HI0.out HI1.out HI2.out (by rfl) (by decide) (.slice ka43 kl43 kc43) t.length (t.map (Value.int .i64)) (by rfl) HOk43.out ⟨W5.drew.heap.size, 0, none⟩ 1 1 [.int .i64 yv] (by rfl) (by rfl) (World.news_of_block (cs := #[.int .i64 yv]) (t := 2) (fr := (0, 0)) hbs43.out) (ints_oneCell .i64 [(yv : Int)]) (by omega) (by unfold maxLen; omega) (by omega) (by have := B43.size; (try simp at this); (try simp); omega) _ rfl ?_
              intro ga45 cp45 wa45 hown45 hgr45 hat45 hlt45
              have hub45 : ∀ k, (Value.slice ka43 kl43 kc43).ownBlock = some k → W5.heap.size ≤ k := fun k e => HOk43.out.ge k e
              have B45 : Below W5.heap.size W5 wa45 := B43.grown hgr45 B43.size hub45
              have c45 := (B45.cell (p := ⟨w.heap.size, 0, none⟩) hEl).trans cv
              have y45 := (B45.cell (p := ⟨W.heap.size, 0, none⟩) hYl).trans cY
              have HOk45 : Hid (Own wa45 W5.heap.size (.slice (some ⟨ga45, 0, none⟩) (t.length + 1) cp45) (t ++ [(yv : Int)])) := own_snoc hown45
              clear hown45 hgr45 hat45 hub45
              refine hK.out _ _ y45 (fun _ => ?_)
              clear hK K
              refine wpAnyH_ready (rs := [6]) (by kernel_rfl) (by simp) ?_
              refine AllReadyH.cons rfl (fun K hK => ?_) AllReadyH.nil
              go_simp
              have B46 : Below W5.heap.size W5 (wa45.alloc (.cells #[(.slice (some ⟨ga45, 0, none⟩) (t.length + 1) cp45)] 22)) := B45.alloc B45.size _
              have c46 := (B46.cell (p := ⟨w.heap.size, 0, none⟩) hEl).trans cv
              have y46 := (B46.cell (p := ⟨W.heap.size, 0, none⟩) hYl).trans cY
              have HOk46 := Lib.hid (HOk45.out.below ((Below.refl _ wa45).alloc (Nat.le_refl _) (.cells #[(.slice (some ⟨ga45, 0, none⟩) (t.length + 1) cp45)] 22)))
              refine hK.out _ _ y46 (fun _ => ?_)
              clear hK K
              refine wpAnyH_ready (rs := [7]) (by kernel_rfl) (by simp) ?_
              refine AllReadyH.cons rfl (fun K hK => ?_) AllReadyH.nil
              refine step_append_lies _ (by rfl) (.tmp 20) (.tmp 26) 67 (by rfl) (w.heap.size + 1) 22 j0 (.slice none 0 0) 1 24 Tryd.underlying67 HJ.out HJ0.out HJ1.out HJ2.out (by rfl) (by decide) u Lp.length cs (by rfl) (HTC.out.below B46).1.1 ⟨wa45.heap.size, 0, none⟩ 1 1 [(.slice (some ⟨ga45, 0, none⟩) (t.length + 1) cp45)] (by rfl) (by rfl) (World.news_of_block (cs := #[(.slice (some ⟨ga45, 0, none⟩) (t.length + 1) cp45)]) (t := 22) (fr := (0, 0)) (World.alloc_heap_new wa45 _)) (by simp [Value.oneCell']) (by omega) (by unfold maxLen; omega) (by omega) (by have := B46.size; (try simp at this); (try simp); omega) _ rfl ?_
              intro gg cp w8 hown8 hgr8 hat8 hlt8
              obtain ⟨hbx8, hy8, hy9, hkf, hkp, hI8⟩ := HEND.out _ _ B46 HOk46.out gg cp w8 hown8 hgr8 hat8
              have c8 := hbx8.cell
              have f8 := hbx8.frozen
              have HKF := Lib.hid hkf; have HKP := Lib.hid hkp; have HI8 := Lib.hid hI8
              clear hbx8 hkf hkp hI8 hown8 hgr8 hat8 hlt8
              refine hK.out _ _ hy8 (fun _ => ?_)
              clear hK K
              refine wpAnyH_ready (rs := [8]) (by kernel_rfl) (by simp) ?_
              refine AllReadyH.cons rfl (fun K hK => ?_) AllReadyH.nil
              go_simp
              refine hK.out _ _ hy9 (fun _ => ?_)
              clear hK K
              refine wpAnyH_done (by kernel_rfl) ?_ _
              exact ⟨HKF.out _, HKP.out _ (by omega), HI8.out⟩
            · refine step_append_lies _ (by rfl) (.tmp 22) (.tmp 24) 22 (by rfl) W5.heap.size 2 i0 (.int .i64 0) 1 8 Tryd.underlying22 HI.out HI0.out HI1.out HI2.out (by rfl) (by decide) (.slice ka43 kl43 kc43) t.length (t.map (Value.int .i64)) (by rfl) HOk43.out ⟨W5.drew.heap.size, 0, none⟩ 1 1 [.int .i64 yv] (by rfl) (by rfl) (World.news_of_block (cs := #[.int .i64 yv]) (t := 2) (fr := (0, 0)) hbs43.out) (ints_oneCell .i64 [(yv : Int)]) (by omega) (by unfold maxLen; omega) (by omega) (by have := B43.size; (try simp at this); (try simp); omega) _ rfl ?_
              intro ga49 cp49 wa49 hown49 hgr49 hat49 hlt49
              have hub49 : ∀ k, (Value.slice ka43 kl43 kc43).ownBlock = some k → W5.heap.size ≤ k := fun k e => HOk43.out.ge k e
              have B49 : Below W5.heap.size W5 wa49 := B43.grown hgr49 B43.size hub49
              have c49 := (B49.cell (p := ⟨w.heap.size, 0, none⟩) hEl).trans cv
              have y49 := (B49.cell (p := ⟨W.heap.size, 0, none⟩) hYl).trans cY
              have HOk49 : Hid (Own wa49 W5.heap.size (.slice (some ⟨ga49, 0, none⟩) (t.length + 1) cp49) (t ++ [(yv : Int)])) := own_snoc hown49
              clear hown49 hgr49 hat49 hub49
              refine hK.out _ _ y49 (fun _ => ?_)
              clear hK K
              refine wpAnyH_ready (rs := [0, 6]) (by kernel_rfl) (by simp) ?_
              refine AllReadyH.cons rfl (fun K hK => ?_) (AllReadyH.cons rfl (fun K hK => ?_) AllReadyH.nil)
              · go_simp
                refine hK.out _ _ y49 (fun _ => ?_)
                clear hK K
                refine wpAnyH_ready (rs := [6]) (by kernel_rfl) (by simp) ?_
                refine AllReadyH.cons rfl (fun K hK => ?_) AllReadyH.nil
                go_simp
                have B51 : Below W5.heap.size W5 (wa49.alloc (.cells #[(.slice (some ⟨ga49, 0, none⟩) (t.length + 1) cp49)] 22)) := B49.alloc B49.size _
                have c51 := (B51.cell (p := ⟨w.heap.size, 0, none⟩) hEl).trans cv
                have y51 := (B51.cell (p := ⟨W.heap.size, 0, none⟩) hYl).trans cY
                have HOk51 := Lib.hid (HOk49.out.below ((Below.refl _ wa49).alloc (Nat.le_refl _) (.cells #[(.slice (some ⟨ga49, 0, none⟩) (t.length + 1) cp49)] 22)))
                refine hK.out _ _ y51 (fun _ => ?_)
                clear hK K
                refine wpAnyH_ready (rs := [7]) (by kernel_rfl) (by simp) ?_
                refine AllReadyH.cons rfl (fun K hK => ?_) AllReadyH.nil
                refine step_append_lies _ (by rfl) (.tmp 20) (.tmp 26) 67 (by rfl) (w.heap.size + 1) 22 j0 (.slice none 0 0) 1 24 Tryd.underlying67 HJ.out HJ0.out HJ1.out HJ2.out (by rfl) (by decide) u Lp.length cs (by rfl) (HTC.out.below B51).1.1 ⟨wa49.heap.size, 0, none⟩ 1 1 [(.slice (some ⟨ga49, 0, none⟩) (t.length + 1) cp49)] (by rfl) (by rfl) (World.news_of_block (cs := #[(.slice (some ⟨ga49, 0, none⟩) (t.length + 1) cp49)]) (t := 22) (fr := (0, 0)) (World.alloc_heap_new wa49 _)) (by simp [Value.oneCell']) (by omega) (by unfold maxLen; omega) (by omega) (by have := B51.size; (try simp at this); (try simp); omega) _ rfl ?_
                intro gg cp w8 hown8 hgr8 hat8 hlt8
                obtain ⟨hbx8, hy8, hy9, hkf, hkp, hI8⟩ := HEND.out _ _ B51 HOk51.out gg cp w8 hown8 hgr8 hat8
                have c8 := hbx8.cell
                have f8 := hbx8.frozen
                have HKF := Lib.hid hkf; have HKP := Lib.hid hkp; have HI8 := Lib.hid hI8
                clear hbx8 hkf hkp hI8 hown8 hgr8 hat8 hlt8
                refine hK.out _ _ hy8 (fun _ => ?_)
                clear hK K
                refine wpAnyH_ready (rs := [8]) (by kernel_rfl) (by simp) ?_
                refine AllReadyH.cons rfl (fun K hK => ?_) AllReadyH.nil
                go_simp
                refine hK.out _ _ hy9 (fun _ => ?_)
                clear hK K
                refine wpAnyH_done (by kernel_rfl) ?_ _
                exact ⟨HKF.out _, HKP.out _ (by omega), HI8.out⟩
              · go_simp
                have B54 : Below W5.heap.size W5 (wa49.alloc (.cells #[(.slice (some ⟨ga49, 0, none⟩) (t.length + 1) cp49)] 22)) := B49.alloc B49.size _
                have c54 := (B54.cell (p := ⟨w.heap.size, 0, none⟩) hEl).trans cv
                have y54 := (B54.cell (p := ⟨W.heap.size, 0, none⟩) hYl).trans cY
                have HOk54 := Lib.hid (HOk49.out.below ((Below.refl _ wa49).alloc (Nat.le_refl _) (.cells #[(.slice (some ⟨ga49, 0, none⟩) (t.length + 1) cp49)] 22)))
                refine hK.out _ _ y54 (fun _ => ?_)
                clear hK K
                refine wpAnyH_ready (rs := [0]) (by kernel_rfl) (by simp) ?_
                refine AllReadyH.cons rfl (fun K hK => ?_) AllReadyH.nil
                go_simp
                refine hK.out _ _ y54 (fun _ => ?_)
                clear hK K
                refine wpAnyH_ready (rs := [7]) (by kernel_rfl) (by simp) ?_
                refine AllReadyH.cons rfl (fun K hK => ?_) AllReadyH.nil
                refine step_append_lies _ (by rfl) (.tmp 20) (.tmp 26) 67 (by rfl) (w.heap.size + 1) 22 j0 (.slice none 0 0) 1 24 Tryd.underlying67 HJ.out HJ0.out HJ1.out HJ2.out (by rfl) (by decide) u Lp.length cs (by rfl) (HTC.out.below B54).1.1 ⟨wa49.heap.size, 0, none⟩ 1 1 [(.slice (some ⟨ga49, 0, none⟩) (t.length + 1) cp49)] (by rfl) (by rfl) (World.news_of_block (cs := #[(.slice (some ⟨ga49, 0, none⟩) (t.length + 1) cp49)]) (t := 22) (fr := (0, 0)) (World.alloc_heap_new wa49 _)) (by simp [Value.oneCell']) (by omega) (by unfold maxLen; omega) (by omega) (by have := B54.size; (try simp at this); (try simp); omega) _ rfl ?_
                intro gg cp w8 hown8 hgr8 hat8 hlt8
                obtain ⟨hbx8, hy8, hy9, hkf, hkp, hI8⟩ := HEND.out _ _ B54 HOk54.out gg cp w8 hown8 hgr8 hat8
                have c8 := hbx8.cell
                have f8 := hbx8.frozen
                have HKF := Lib.hid hkf; have HKP := Lib.hid hkp; have HI8 := Lib.hid hI8
                clear hbx8 hkf hkp hI8 hown8 hgr8 hat8 hlt8
                refine hK.out _ _ hy8 (fun _ => ?_)
                clear hK K
                refine wpAnyH_ready (rs := [8]) (by kernel_rfl) (by simp) ?_
                refine AllReadyH.cons rfl (fun K hK => ?_) AllReadyH.nil
                go_simp
                refine hK.out _ _ hy9 (fun _ => ?_)
                clear hK K
                refine wpAnyH_done (by kernel_rfl) ?_ _
                exact ⟨HKF.out _, HKP.out _ (by omega), HI8.out⟩
      case done =>
        rintro D ys W2' hDD rfl ⟨u, hbx, htl, hby, hD', hB', hs', hne⟩ hK
        have HTL2 : Hid (TL W2' (w.heap.size + 1) u (preF F T (v + 1) [])) := by
          show TL _ _ _ _
          rw [← HPN.out, ← show (memL z).unattach = mem z from memL_val z]; exact htl.out
        clear htl hby
        gi_wp2
        refine ⟨⟨v + 1, D :: Ds, u, _, _, _, _, _, _, _, _, _, _, _, _, _, _, _, _, _, _, _, _, _, rfl, by omega, hbx, HTL2, hB', ?_, by omega⟩, ?_⟩
        · refine ⟨List.nodup_cons.2 ⟨fun hDD' => ?_, hD3.1⟩, fun E hE => ?_⟩
          · have := (Array.getElem?_eq_some_iff.1 (hD3.2 D hDD').2).1; omega
          · rcases List.mem_cons.1 hE with rfl | hE
            · exact ⟨by omega, hK⟩
            · exact ⟨(hD3.2 E hE).1, hD' E hE⟩
        · simp [intOf]; omega
      case stop =>
        rintro D c pre W' _ _ h _
        exact h.elim
    · obtain rfl : v = T.length := by omega
      have cv := HX.out.cell
      gi_wp2
      refine leaves_marks (H := Wb.heap.size) Ds _ hD fun W' hs hb' => ⟨_, results_tmp rfl _ _ _, ⟨u, rfl, by have h1 := (HTL.out.marks hD hs).base (show w.heap.size ≤ w.heap.size + 1 by omega); rw [preF_end] at h1; exact h1⟩, hB.trans (hb'.mono (by omega))⟩
end Go.Proofs.YtkflcjhoghiffaaDoor
