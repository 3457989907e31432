/-
  IsCover: the model and the program answer the same, whatever comes in.
-/
import Derived.Test.YtlodaeoikkjbkaaDoorIk
namespace Go.Proofs.YtlodaeoikkjbkaaDoor
set_option maxRecDepth 100000
open Go.RowKit Go.Shelf

theorem iv_inv {n0 n1 : Int} {zs hs vs : List Int} (h : (isG n0 zs && isG n1 hs) = false) : ivD n0 n1 zs hs vs = false ∧ ivC n0 n1 zs hs vs = 1 := by
  constructor
  · unfold ivD; rw [h]; rfl
  · unfold ivC; rw [h]; rfl
theorem iv_len {n0 n1 : Int} {zs hs vs : List Int} (h0 : isG n0 zs = true) (h1 : isG n1 hs = true) (h : ¬ ((vs.length : Int) = n0)) : ivD n0 n1 zs hs vs = false ∧ ivC n0 n1 zs hs vs = 2 := by
  constructor
  · unfold ivD; rw [h0, h1, decide_eq_false h]; rfl
  · unfold ivC; rw [h0, h1, decide_eq_false h]; rfl
theorem iv_main {n0 n1 : Int} {zs hs vs : List Int} (h0 : isG n0 zs = true) (h1 : isG n1 hs = true) (h : (vs.length : Int) = n0) : ivD n0 n1 zs hs vs = ivB n1 zs hs vs ∧ ivC n0 n1 zs hs vs = vc n1 vs := by
  constructor
  · unfold ivD ivB; rw [h0, h1, decide_eq_true h]; rfl
  · unfold ivC vc; rw [h0, h1, decide_eq_true h]; rfl

theorem specIv_any (n0 n1 : Int) (u0 u1 u2 : Value) (zs hs vs : List Int) (w : World) (h0 : Sl w u0 zs) (h1 : Sl w u1 hs) (h2 : Sl w u2 vs) (hl0 : zs.length ≤ 9223372036854775807) (hl1 : hs.length ≤ 9223372036854775807) (hl2 : vs.length ≤ 1048576) :
    Calls Tryd.prog 19 #[.agg #[.int .i64 n0, u0], .agg #[.int .i64 n1, u1], u2] w fun e w' => e = .returned (.tuple #[.bool (ivD n0 n1 zs hs vs), .int .i64 (ivC n0 n1 zs hs vs)]) ∧ Below w.heap.size w w' := by
  cases hg : (isG n0 zs && isG n1 hs) with
  | false =>
    rw [(iv_inv hg).1, (iv_inv hg).2]
    exact specIv_inv n0 n1 u0 u1 u2 zs hs w h0 h1 hl0 hl1 hg
  | true =>
    obtain ⟨hg0, hg1⟩ := Bool.and_eq_true_iff.1 hg
    have p0 := isG_parts hg0; have p1 := isG_parts hg1
    obtain ⟨b0, o0, c0, rfl, hb0, hc0⟩ := sl_some h0 (by omega)
    obtain ⟨b1, o1, c1, rfl, hb1, hc1⟩ := sl_some h1 (by omega)
    obtain rfl : n0 = zs.length := by omega
    obtain rfl : n1 = hs.length := by omega
    by_cases hle : (vs.length : Int) = zs.length
    · rw [(iv_main hg0 hg1 hle).1, (iv_main hg0 hg1 hle).2]
      obtain ⟨b2, o2, c2, rfl, hb2, hc2⟩ := sl_some h2 (by omega)
      have hle' : vs.length = zs.length := by omega
      rw [hle']
      exact specIv_main b0 o0 c0 b1 o1 c1 b2 o2 c2 zs hs vs w hb0 hc0 hb1 hc1 hb2 hc2 hg0 hg1 hle'
    · rw [(iv_len hg0 hg1 hle).1, (iv_len hg0 hg1 hle).2]
      exact specIv_len b0 o0 c0 b1 o1 c1 u2 zs hs vs w hb0 hc0 hb1 hc1 h2 hg0 hg1 hl2 (by omega)

theorem implIv_any (n0 n1 : Int) (u0 u1 u2 : Value) (zs hs vs : List Int) (w : World) (h0 : Sl w u0 zs) (h1 : Sl w u1 hs) (h2 : Sl w u2 vs) (hl0 : zs.length ≤ 9223372036854775807) (hl1 : hs.length ≤ 9223372036854775807) (hl2 : vs.length ≤ 1048576) (hT : Tab w) :
    Calls Tryd.prog 21 #[.agg #[.int .i64 n0, u0], .agg #[.int .i64 n1, u1], u2] w fun e w' => e = .returned (.tuple #[.bool (ivD n0 n1 zs hs vs), .int .i64 (ivC n0 n1 zs hs vs)]) ∧ Below w.heap.size w w' := by
  have e2 := slForm h2
  cases hg0 : isG n0 zs with
  | false =>
    have hg : (isG n0 zs && isG n1 hs) = false := by rw [hg0]; rfl
    rw [(iv_inv hg).1, (iv_inv hg).2, e2]
    exact implIv_g n0 n1 u0 u1 _ _ _ zs w h0 hl0 hg0 hT
  | true =>
    have p0 := isG_parts hg0
    obtain ⟨b0, o0, c0, rfl, hb0, hc0⟩ := sl_some h0 (by omega)
    obtain rfl : n0 = zs.length := by omega
    cases hg1 : isG n1 hs with
    | false =>
      have hg : (isG zs.length zs && isG n1 hs) = false := by rw [hg0, hg1]; rfl
      rw [(iv_inv hg).1, (iv_inv hg).2, e2]
      exact implIv_c b0 o0 c0 n1 u1 _ _ _ zs 1 w hb0 hc0 hg0 hl0 hT (by decide) fun W hW => chk_no n1 u1 _ hs W (h1.below hW) hg1 hl1 (hT.belowAll hW)
    | true =>
      have p1 := isG_parts hg1
      obtain ⟨b1, o1, c1, rfl, hb1, hc1⟩ := sl_some h1 (by omega)
      obtain rfl : n1 = hs.length := by omega
      have hck : ∀ W, Below w.heap.size w W → Calls Tryd.prog 36 #[.agg #[.int .i64 hs.length, .slice (some ⟨b1, o1, none⟩) hs.length c1], u2] W fun e w' => e = .returned (.int .i64 (vc hs.length vs)) ∧ Below W.heap.size W w' := fun W hW => by
        rcases h2.below hW with ⟨a, c, rfl, rfl⟩ | ⟨b2, o2, c2, rfl, hb2, hc2⟩
        · exact chk_nil hs.length b1 o1 c1 hs a c W (Nat.lt_of_lt_of_le hb1 hW.size) (hc1.below hW hb1) hg1 hl1 (hT.belowAll hW)
        · exact chk_some hs.length b1 o1 c1 hs b2 o2 c2 vs W (Nat.lt_of_lt_of_le hb1 hW.size) (hc1.below hW hb1) hb2 hc2 hg1 hl1 (by omega) (hT.belowAll hW)
      by_cases hle : (vs.length : Int) = zs.length
      · rw [(iv_main hg0 hg1 hle).1, (iv_main hg0 hg1 hle).2]
        cases hv : vsOk hs.length vs vs.length with
        | false =>
          rw [ivB_no hv, vc_no hv, e2]
          rw [vc_no hv, e2] at hck
          exact implIv_c b0 o0 c0 hs.length _ _ _ _ zs 2 w hb0 hc0 hg0 hl0 hT (by decide) hck
        | true =>
          obtain ⟨b2, o2, c2, rfl, hb2, hc2⟩ := sl_some h2 (by omega)
          have hle' : vs.length = zs.length := by omega
          rw [vc_yes hv, hle']
          exact callsIn_wide.1 (implIv_in b0 o0 c0 b1 o1 c1 b2 o2 c2 zs hs vs w hb0 hc0 hb1 hc1 hb2 hc2 hg0 hg1 hle' hv hT)
      · rw [(iv_len hg0 hg1 hle).1, (iv_len hg0 hg1 hle).2]
        cases hv : vsOk hs.length vs vs.length with
        | false =>
          rw [e2]
          rw [vc_no hv, e2] at hck
          exact implIv_c b0 o0 c0 hs.length _ _ _ _ zs 2 w hb0 hc0 hg0 hl0 hT (by decide) hck
        | true =>
          rw [e2]
          rw [vc_yes hv, e2] at hck
          exact implIv_len b0 o0 c0 hs.length _ _ _ _ zs w hb0 hc0 hg0 hl0 hT hl2 (by omega) hck
end Go.Proofs.YtlodaeoikkjbkaaDoor
