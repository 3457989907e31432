/- For all arguments that come in the law FnExactIsDesk returns true and its arguments read afterwards as they read before. Conditions: the row's own (the door's error and the table math/bits.deBruijn64tab are listed and tied to the program's text). -/
import Derived.Test.YtbncfhmpkoaffaaDoorCardD
import Derived.Test.YtbncfhmpkoaffaaDoorLawIsDesk
import Derived.ChangeSame
set_option maxRecDepth 100000
namespace Go.Proofs.YtbncfhmpkoaffaaDoor.fnExactIsDesk
set_option maxRecDepth 100000
open Go.ChangeShapes Go.WideShapes Go.ChangeAt Go.RowKit

theorem cellsDk : Tryd.prog.cellsOf 46 = 4 := by kernel_rfl
theorem cellsGrK : Tryd.prog.cellsOf 44 = 2 := by kernel_rfl
theorem cellsDgK : Tryd.prog.cellsOf 24 = 2 := by kernel_rfl
/-- A list in a field that came in, opened. -/
theorem open_slK {H : Type} {enc : TypeId × Value → H} {W : World} {m : Nat} {c1 : Value} {y1 : DataW H × List MemPlace} (hy1 : DataW.trod enc Tryd.prog W 0 (fun _ => true) true m 22 [c1] = some y1) :
    ∃ zs : List Int, Sl W c1 zs ∧ zs.length ≤ 9223372036854775807 := by
  rcases open_ints Tryd.underlying22 Tryd.underlying2 cellsInt hy1 with ⟨hcs, _⟩ | ⟨x, l, c, zs, hcs, _, hl, hm, hz, _, hcell, _⟩
  · simp at hcs; subst hcs
    exact ⟨[], .inl ⟨_, _, rfl, rfl⟩, by simp⟩
  · simp at hcs; subst hcs
    simp only [if_true] at hz
    have hlen : (zs.take l).length = l := by rw [List.length_take]; omega
    refine ⟨zs.take l, ?_, by rw [hlen]; unfold maxLen at hm; omega⟩
    by_cases h0 : l = 0
    · subst h0
      exact .inl ⟨_, _, rfl, rfl⟩
    · obtain ⟨b, off, spot⟩ := x
      have hc := hcell 0 (by omega)
      have hspot : spot = none := by simpa [Addr.add] using World.cell?_spot hc
      subst hspot
      refine .inr ⟨b, off, c, by rw [hlen], World.block_lt_of_cell? W _ (by simpa [Addr.add] using hc), fun i hi => ?_⟩
      rw [hlen] at hi
      have hci := hcell i (by omega)
      have e : el (zs.take l) i = zs.getD i 0 := by simp [el, hi]
      rw [e, ← hci]
      congr 1
      unfold Addr.add; split <;> simp_all
/-- A desk that came in, opened. -/
theorem open_desk {H : Type} {enc : TypeId × Value → H} {W : World} {base : Nat} {v : Value} {d : DataW H} {p : List MemPlace} (hv : Value.okWide Tryd.prog W .any base 46 v)
    (h : DataW.Trod enc Tryd.prog W 0 (fun _ => true) true 46 v d p) : ∃ (n m : Int) (u y : Value) (zs ys : List Int), v = .agg #[.int .i64 n, u, .int .i64 m, y] ∧ Sl W u zs ∧ Sl W y ys ∧ zs.length ≤ 9223372036854775807 ∧ ys.length ≤ 9223372036854775807 := by
  obtain ⟨cs, rfl, hsz⟩ := okWide_struct Tryd.underlying46 hv
  obtain ⟨c0, c1, c2, c3, rfl⟩ := Joins.array4 (hsz.trans cellsDk)
  obtain ⟨fuel, hf⟩ := h
  obtain ⟨y0, y1, k, hx, _, h0, h1⟩ := trod_struct2 Tryd.underlying46 hf
  simp [Value.cells, cellsGrK, cellsDgK] at h0 h1
  obtain ⟨a0, a1, j, _, _, i0, i1⟩ := trod_struct2 Tryd.underlying44 h0
  obtain ⟨b0, b1, j2, _, _, l0, l1⟩ := trod_struct2 Tryd.underlying24 h1
  simp [cellsInt] at i0 i1 l0 l1
  obtain ⟨n, e0, _⟩ := DataW.trod_int Tryd.underlying2 i0
  obtain ⟨m, e1, _⟩ := DataW.trod_int Tryd.underlying2 l0
  simp at e0 e1
  subst e0; subst e1
  obtain ⟨zs, s1, s2⟩ := open_slK i1
  obtain ⟨ys, t1, t2⟩ := open_slK l1
  exact ⟨n, m, c1, c3, zs, ys, rfl, s1, t1, s2, t2⟩

theorem contract (H : Type) (enc : TypeId × Value → H) (W : World) (base : Nat) (args : Array Value) (ds gs : List (DataW H)) (before : List MemPlace)
    (hval0 : ∀ (j : Nat) t v, Tryd.f11.params[j]? = some t → args[j]? = some v → Value.okWide Tryd.prog W .any base t v)
    (hW : DataW.Whole enc Tryd.prog Tryd.f11.params.toList Rows.fnExactIsDeskSpec.vars false W args.toList ds gs before) (hL : laidMetH Tryd.prog Rows.fnExactIsDeskRow.laid W) :
    Calls Tryd.prog 11 args W fun e W' => ∃ v, e = .returned v ∧ Rows.fnExactIsDeskSpec.post enc Tryd.prog Tryd.f11 false true false false W args v W' := by
  have hval := hval0
  have hW' := hW
  obtain ⟨p, q, hA0, hV, rfl, hfz, hnd⟩ := hW
  have hA : DataW.TrodAll enc Tryd.prog W 0 (fun _ => true) true Tryd.f11.params.toList args.toList ds p := hA0
  rw [Tryd.params11] at hA hval
  obtain ⟨v0, vs0, d0, ds0, p0, q0, hargs0, rfl, rfl, h0, r0⟩ := trodAll_cons hA
  obtain ⟨rfl, rfl, rfl⟩ := trodAll_nil r0
  obtain rfl : args = #[v0] := by cases args; simp_all
  have hV1 := hV
  obtain ⟨_, _, _, _, dv, _, rfl, _, _, _, _, _⟩ := trodVars_one hV
  have k0 := h0
  have lt0 : ∀ x ∈ p0, x.block < W.heap.size := by obtain ⟨m, hm⟩ := k0; exact DataW.trod_lt m _ _ _ hm
  obtain ⟨n0, m0, u0, x0, zs0, ys0, rfl, hs0, ht0, hl0, hm0⟩ := open_desk (hval 0 46 v0 rfl rfl) h0
  clear hA0 hval0
  refine (lawIsDesk n0 m0 u0 x0 zs0 ys0 W hs0 ht0 (tab_of2 hL) (err_of2 hL) hl0 hm0).mono fun e W' ⟨he, bel⟩ => ?_
  subst he
  exact ⟨_, rfl, _, _, _, [], _, _, hW', trodAll_mk1 (shut_bool Tryd.underlying4 _), (trodAll_cons_mk (Below.trod laidOut (by kernel_rfl) (of_decide_eq_true (by kernel_rfl)) k0 bel lt0) trodAll_mk0), Below.trodVars laidOut bel (by kernel_rfl) hV1, bel.frame _, fun h => by cases h⟩

theorem laid_met (os : Os) : laidMet Tryd.prog Rows.fnExactIsDeskRow.laid ((laidWorldE os).forCall (fun _ _ => 0) ⟨#[], #[.agg #[.int .i64 0, .slice none 0 0, .int .i64 0, .slice none 0 0]], []⟩).memory :=
  laidMet_of_run' 8 (by kernel_rfl) (by kernel_rfl)
theorem reads (os : Os) {H : Type} (enc : TypeId × Value → H) : ∃ gs places, DataW.whole enc Tryd.prog ((laidWorldE os).forCall (fun _ _ => 0) ⟨#[], #[.agg #[.int .i64 0, .slice none 0 0, .int .i64 0, .slice none 0 0]], []⟩).memory Tryd.f11.params.toList Rows.fnExactIsDeskSpec.vars false (#[.agg #[.int .i64 0, .slice none 0 0, .int .i64 0, .slice none 0 0]] : Array Value).toList 8 = some ([.agg [.agg [.lit (.int .i64 0), .nil], .agg [.lit (.int .i64 0), .nil]]], gs, places) :=
  ⟨[tok enc (.iface 93 (.pointer (some ⟨low, 0, none⟩)))], [.cell 0 0], by kernel_rfl⟩

set_option maxRecDepth 100000 in
theorem lifted (os : Os) (started : os.Started) (H : Type) (enc : TypeId × Value → H) (F : Stop.Interp) :
    ReturnsInHanded {} Tryd.checked os 11 .any ((OpenSpec.ofChange Rows.fnExactIsDeskSpec).preRow enc Tryd.prog Tryd.f11 Rows.fnExactIsDeskRow.domain false Rows.fnExactIsDeskRow.laid) (((OpenSpec.ofChange Rows.fnExactIsDeskSpec).at F).post enc Tryd.prog Tryd.f11 false true false false) := by
  obtain ⟨gs, places, hx⟩ := reads os enc
  refine returnsInHanded_of_row (C := Tryd.checked) (s := OpenSpec.ofChange Rows.fnExactIsDeskSpec) own started (by kernel_rfl) Tryd.func11
    (witness_row_at (enc := enc) (C := Tryd.checked) false (laidWorldE os) #[.agg #[.int .i64 0, .slice none 0 0, .int .i64 0, .slice none 0 0]] rfl (by kernel_rfl) (by kernel_rfl) (by kernel_rfl)
      (OpenSpec.preRow_of_cond 8 hx (by kernel_rfl) (fun k hk => by cases hk) (by kernel_rfl) (laid_met os))) ?_
  intro W base args ds gs before hval hW _ _ _ hL _ _
  exact contract H enc W base args ds gs before hval hW hL

theorem said : Rows.FnExactIsDeskSaid :=
  OpenClaim.holds_of_cond 11 Tryd.f11 rfl rfl rfl rfl rfl rfl rfl ⟨rfl, rfl, rfl, rfl, rfl⟩ rfl rfl rfl rfl rfl (by kernel_rfl) Tryd.func11 (by kernel_rfl)
    (of_decide_eq_true (by kernel_rfl)) (by unfold Func.isWrapper; first | (rw [if_pos (by decide +kernel)]; kernel_rfl) | (rw [if_neg (by decide +kernel)]; exact ⟨rfl, rfl⟩))
    (fun os started H enc _ F => by rw [OpenClaim.pre_eq_preRow]; exact lifted os started H enc F)

theorem plain (f : FuncId) (fn : Func) (hf : Tryd.pinned.checked.prog.funcNamed "loop.example/g01331/laws.FnExactIsDesk" = some f) (hfn : Tryd.pinned.checked.prog.funcs[f]? = some fn) :
    true = Tryd.pinned.checked.prog.looks [] ∧ ∀ (j : Nat) t, fn.params[j]? = some t → Tryd.pinned.checked.prog.wantsStandIn t = false := by
  obtain rfl : f = 11 := Option.some.inj ((show Tryd.prog.funcNamed "loop.example/g01331/laws.FnExactIsDesk" = some 11 by kernel_rfl).symm.trans hf) |>.symm
  obtain rfl : fn = Tryd.f11 := (Option.some.inj (Tryd.func11.symm.trans hfn)).symm
  refine ⟨by kernel_rfl, fun j t ht => ?_⟩
  rw [Tryd.params11] at ht
  obtain rfl : t = 46 := by simpa using Array.mem_of_getElem? ht
  exact (show Tryd.prog.wantsStandIn 46 = false by kernel_rfl)

theorem card : Rows.FnExactIsDeskCardSaid :=
  Claim7.holds_tied_plain_at .later [] _ _ _ _ said (fun _ h => by cases h) (by kernel_rfl) (fun _ h => by cases h) fnExactIsDesk_row_tie rfl ⟨rfl, rfl⟩ (by kernel_rfl) rfl plain (by kernel_rfl)
end Go.Proofs.YtbncfhmpkoaffaaDoor.fnExactIsDesk

