/-
  Several texts in one: Ls Li.
-/
import Derived.Test.YtlodaeoikkjbkaaDoorDs
import Derived.Test.YtlodaeoikkjbkaaDoorCk
namespace Go.Proofs.YtlodaeoikkjbkaaDoor
set_option maxRecDepth 100000
open Go.RowKit

def slLen : Value → Nat | .slice _ l _ => l | _ => 0

set_option maxRecDepth 100000 in
set_option maxHeartbeats 3200000 in
theorem levels_n (n : Int) (b off cap : Nat) (zs : List Int) (v : Nat) (w : World) (hb : b < w.heap.size) (hc : Cells w b off zs) (hg : isG n zs = true) (hv : v < zs.length) :
    Calls Tryd.prog 87 #[.agg #[.int .i64 n, .slice (some ⟨b, off, none⟩) zs.length cap], .int .i64 v] w fun e w' => ∃ u, e = .returned u ∧ Own w' w.heap.size u (lvL zs v) ∧ Below w.heap.size w w' := by
  obtain ⟨p1, p2, p3, -, -⟩ := isG_parts hg
  have hm62 : zs.length ≤ 62 := by omega
  have D0 : Below w.heap.size w (w.alloc (.cells #[.int .i64 n, .slice (some ⟨b, off, none⟩) zs.length cap] 28)) := (Below.refl _ _).alloc (Nat.le_refl _) _
  have hfr := from_n n b off cap zs v (w.alloc (.cells #[.int .i64 n, .slice (some ⟨b, off, none⟩) zs.length cap] 28)) (Nat.lt_of_lt_of_le hb D0.size) (hc.below D0 hb) hg hv
  obtain ⟨i0, hi, hz0, hz1, hz2⟩ := info_parts mk_info
  have HI := Lib.hid hi; have HI0 := Lib.hid hz0; have HI1 := Lib.hid hz1; have HI2 := Lib.hid hz2
  clear hg hc hi hz0 hz1 hz2 p3
  go_enter Tryd.func87, Tryd.ntmps87
  go_wp2_with fail
  refine hfr.mono ?_
  rintro e w1 ⟨ud, rfl, hO1, hb1⟩
  have l1 : w.heap.size + 1 ≤ w1.heap.size := by have := hb1.size; simpa using this
  have E1 : Below w.heap.size w w1 := D0.trans (hb1.mono (by simp))
  obtain ⟨gd, cd, hud, hgd, hgd2⟩ : ∃ gd cd, ud = .slice (some ⟨gd, 0, none⟩) zs.length cd ∧ w.heap.size + 1 ≤ gd ∧ gd < w1.heap.size := by
    rcases hO1.form with ⟨_, h0⟩ | ⟨gd, cd, h1, h2, h3⟩
    · have h4 := congrArg List.length h0
      rw [dsL_length, List.length_nil] at h4
      omega
    · rw [dsL_length] at h1
      exact ⟨gd, cd, h1, by simpa using h2, h3⟩
  subst hud
  have HO1 := Lib.hid hO1
  clear hb1 hfr hO1
  have hnil : Hid (Own (w1.alloc (.cells #[] 2)) w.heap.size (.slice (some ⟨w1.heap.size, 0, none⟩) (lvF (dsL zs v) 0).length 0) (lvF (dsL zs v) 0)) :=
    World.ownsRow_made w1 #[] 0 (base := w.heap.size) (e := 2) (size := 1) (by omega) (by decide) rfl
  have HD1 : Hid (Own (w1.alloc (.cells #[] 2)) w.heap.size (.slice (some ⟨gd, 0, none⟩) zs.length cd) (dsL zs v)) := World.ownsRow.alloc (HO1.out.base (by simp)) _
  have B1 : Below w.heap.size w (w1.alloc (.cells #[] 2)) := E1.alloc (by omega) _
  have hne1 : w1.heap.size ≠ gd := by omega
  clear HO1 E1
  go_wp2
  go_loopw [6, 7] (fun u t wr => ∃ (k gl capl : Nat), t = .int .i64 k ∧ u = .slice (some ⟨gl, 0, none⟩) (lvF (dsL zs v) k).length capl ∧ k ≤ zs.length ∧ Hid (Own wr w.heap.size (.slice (some ⟨gd, 0, none⟩) zs.length cd) (dsL zs v)) ∧ Hid (Own wr w.heap.size (.slice (some ⟨gl, 0, none⟩) (lvF (dsL zs v) k).length capl) (lvF (dsL zs v) k)) ∧ gl ≠ gd ∧ Below w.heap.size w wr) (fun _ t _ => zs.length - (intOf t).toNat)
  case atStart => exact ⟨0, w1.heap.size, 0, rfl, rfl, Nat.zero_le _, HD1, hnil, hne1, B1⟩
  case round =>
    clear HD1 hnil hne1 B1
    obtain ⟨k, gl, capl, rfl, rfl, hk, HD, HL, hne, hB⟩ := hrel
    by_cases hlt : (k : Int) < zs.length
    · have hkl : k < zs.length := by omega
      have hk0 : (0 : Int) ≤ k := by omega
      obtain ⟨d, hd⟩ : ∃ d, d = el (dsL zs v) k := ⟨_, rfl⟩
      have hd1 : -1 ≤ d := by rw [hd]; exact dsL_ge hkl
      have hd2 : d < zs.length := by rw [hd]; exact dsL_few hv hkl
      have hO0 := lvF_len (ds := dsL zs v) (n := zs.length) (k := k) (fun w hw => dsL_few hv (by omega))
      obtain ⟨O, hO⟩ : ∃ O, O = lvF (dsL zs v) k := ⟨_, rfl⟩
      have HNX : Hid (lvF (dsL zs v) (k + 1) = lvStep O d) := by show lvF _ _ = _; rw [lvF, ← hO, ← hd]
      have hcd : ∀ wr, Own wr w.heap.size (.slice (some ⟨gd, 0, none⟩) zs.length cd) (dsL zs v) → wr.cell? ⟨gd, k, none⟩ = some (.int .i64 d) := fun wr h => by
        unfold Own at h; rw [dsL_length] at h; rw [hd]
        exact (World.ownsRow.cellAt h k (by omega)).trans (map_at _ k (by rw [dsL_length]; omega))
      have HCD := Lib.hid hcd
      have hcnt : ∀ i, 0 ≤ el O i ∧ el O i ≤ 62 := fun i => by
        rw [hO, (lvF_ok (dsL zs v) k).at' i]
        have := cnt_le (dsL zs v) k i
        omega
      have HCN := Lib.hid hcnt
      rw [← hO] at HL hO0 ⊢
      clear hd hO hcd hcnt
      go_wp2
      obtain ⟨wo, rfl⟩ : ∃ wo : World, wo = wr := ⟨_, rfl⟩
      go_loopw [6] (fun u wr => ∃ (m gl capl : Nat), u = .slice (some ⟨gl, 0, none⟩) (O.length + m) capl ∧ m ≤ (d + 1).toNat - O.length ∧ Hid (Own wr w.heap.size (.slice (some ⟨gd, 0, none⟩) zs.length cd) (dsL zs v)) ∧ Hid (Own wr w.heap.size (.slice (some ⟨gl, 0, none⟩) (O.length + m) capl) (O ++ List.replicate m 0)) ∧ gl ≠ gd ∧ Below w.heap.size w wr) (fun u _ => zs.length + 1 - slLen u)
      case atStart => exact ⟨0, gl, capl, rfl, Nat.zero_le _, HD, by show Own _ _ _ _; rw [List.replicate_zero, List.append_nil]; exact HL.out, hne, hB⟩
      case round =>
        clear HD HL hne hB
        obtain ⟨m, gl, capl, rfl, hm, HD, HL, hne, hB⟩ := hrel
        have hcd := HCD.out wr HD.out
        have hlw := hB.size
        by_cases hle : ((O.length + m : Nat) : Int) ≤ d
        · have HLW : Hid (wr.ownsRow w.heap.size 2 1 (.slice (some ⟨gl, 0, none⟩) (O.length + m) capl) (O.length + m) ((O ++ List.replicate m 0).map (Value.int .i64))) := by
            have := HL.out; unfold Own at this; rw [List.length_append, List.length_replicate] at this; exact this
          have hgdlt : gd < wr.heap.size := HD.out.lt gd rfl
          go_wp2_with (at_builtin; refine wpList_append_lies _ rfl _ _ 22 rfl w.heap.size 2 i0 (.int .i64 0) 1 8 Tryd.underlying22 HI.out HI0.out HI1.out HI2.out rfl (by decide) (.slice (some ⟨gl, 0, none⟩) (O.length + m) capl) (O.length + m) _ rfl (World.ownsRow.alloc HLW.out _) ⟨wr.heap.size, 0, none⟩ 1 1 [.int .i64 0] rfl rfl (cell_one_new _ _ _) (by simp [Value.oneCell']) (by decide) (by unfold maxLen; omega) (by omega) (by simp; omega) (wr.heap.size + 1) (by simp) ?_; intro gg cp w3 hown3 hgr3 hat3 hlt3)
          have hne3 : gg ≠ gd := by
            rcases hat3 with h | h
            · have : gl = gg := by simpa [Value.ownBlock] using h
              omega
            · omega
          have HD3 : Hid (Own w3 w.heap.size (.slice (some ⟨gd, 0, none⟩) zs.length cd) (dsL zs v)) := (show Own _ _ _ _ from World.ownsRow.alloc HD.out _).kept hgr3 (.inr (by simp [Value.ownBlock]; omega))
          have HL3 : Hid (Own w3 w.heap.size (.slice (some ⟨gg, 0, none⟩) (O.length + m + 1) cp) (O ++ List.replicate (m + 1) 0)) := by
            show World.ownsRow _ _ _ _ _ _ _
            rw [rep_succ, ← List.append_assoc, List.map_append, List.length_append, List.length_append, List.length_replicate]
            exact hown3
          have B3 : Below w.heap.size w w3 := (hB.alloc hlw _).grown hgr3 (by simp; omega) (fun k e => by cases e; exact (World.ownsRow.lt HLW.out gl rfl).1)
          clear hown3 hgr3 hat3 HLW HL HD hB hcd
          go_wp2
          go_roundw
          case rel => exact ⟨m + 1, gg, cp, rfl, by omega, HD3, HL3, hne3, B3⟩
          case measure => show zs.length + 1 - (O.length + m + 1) < zs.length + 1 - (O.length + m); omega
        · by_cases hd0 : 0 ≤ d
          · obtain ⟨e, rfl⟩ : ∃ e : Nat, d = (e : Int) := ⟨d.toNat, by omega⟩
            have hme : m = e + 1 - O.length := by omega
            have hpad : O ++ List.replicate m 0 = lvPad O (e : Int) := by unfold lvPad; rw [hme, Int.toNat_natCast]
            obtain ⟨c, hc⟩ : ∃ c, c = el (lvPad O (e : Int)) e := ⟨_, rfl⟩
            have hc2 : 0 ≤ c ∧ c ≤ 62 := by rw [hc, el_pad]; exact HCN.out e
            obtain ⟨c0, c1⟩ := hc2
            have hel : O.length + m = (lvPad O (e : Int)).length := by rw [← hpad, List.length_append, List.length_replicate]
            have HLW : Hid (wr.ownsRow w.heap.size 2 1 (.slice (some ⟨gl, 0, none⟩) (O.length + m) capl) (O.length + m) ((lvPad O (e : Int)).map (Value.int .i64))) := by
              have := HL.out; unfold Own at this; rw [hpad, ← hel] at this; exact this
            have hcl : wr.cell? ⟨gl, e, none⟩ = some (.int .i64 c) := by rw [hc]; exact (World.ownsRow.cellAt HLW.out e (by omega)).trans (map_at _ e (by omega))
            have hfl : wr.frozen? ⟨gl, e, none⟩ = false := World.ownsRow.frozenAt HLW.out e
            have HS : Hid (Own (wr.setCell ⟨gl, e, none⟩ (.int .i64 (c + 1))) w.heap.size (.slice (some ⟨gl, 0, none⟩) (lvF (dsL zs v) (k + 1)).length capl) (lvF (dsL zs v) (k + 1))) := by
              have := (World.ownsRow.stored HLW.out e (.int .i64 (c + 1))).1
              rw [← List.map_set] at this
              show Own _ _ _ _
              rw [HNX.out]
              unfold lvStep Own
              rw [if_neg (by omega), Int.toNat_natCast, ← hc, List.length_set, ← hel]
              exact this
            have HD3 : Hid (Own (wr.setCell ⟨gl, e, none⟩ (.int .i64 (c + 1))) w.heap.size (.slice (some ⟨gd, 0, none⟩) zs.length cd) (dsL zs v)) :=
              HD.out.kept (grown_set ⟨rfl, rfl, rfl, Nat.le_refl _, fun _ _ _ => rfl⟩ gl e _) (.inr (by simp [Value.ownBlock]; omega))
            have hll : (O.length + m : Nat) = (lvF (dsL zs v) (k + 1)).length := by
              rw [HNX.out]; unfold lvStep; rw [if_neg (by omega), List.length_set, ← hel]
            have hge : w.heap.size ≤ gl := (World.ownsRow.lt HLW.out gl rfl).1
            have B3 : Below w.heap.size w (wr.setCell ⟨gl, e, none⟩ (.int .i64 (c + 1))) := hB.setCell (p := ⟨gl, e, none⟩) (by simpa using hge) _
            have hw : IntKind.i64.wrap (c + 1) = c + 1 := IntWalk.i64_in _ ⟨by omega, by omega⟩
            have he0 : (0 : Int) ≤ e := by omega
            have he1 : (e : Int) < ((O.length + m : Nat) : Int) := by omega
            have HLL := Lib.hid hll
            clear hc hpad hel hme HLW HL HD hll
            go_wp2
            go_roundw
            case rel => exact ⟨k + 1, gl, capl, by go_num, by rw [HLL.out], by omega, HD3, HS, hne, B3⟩
            case measure => simp [intOf]; omega
          · have hm0 : m = 0 := by omega
            subst hm0
            have HS : Hid (Own wr w.heap.size (.slice (some ⟨gl, 0, none⟩) (lvF (dsL zs v) (k + 1)).length capl) (lvF (dsL zs v) (k + 1))) := by
              have := HL.out
              rw [List.replicate_zero, List.append_nil] at this
              show Own _ _ _ _
              rw [HNX.out]
              unfold lvStep
              rw [if_pos (by omega)]
              exact this
            have HLL : Hid (O.length + 0 = (lvF (dsL zs v) (k + 1)).length) := by
              show O.length + 0 = _
              rw [HNX.out]; unfold lvStep; rw [if_pos (by omega), Nat.add_zero]
            clear HL
            go_wp2
            go_roundw
            case rel => exact ⟨k + 1, gl, capl, by go_num, by rw [← HLL.out], by omega, HD, HS, hne, hB⟩
            case measure => simp [intOf]; omega
    · have hkl : k = zs.length := by omega
      subst hkl
      have HF : Hid (Own wr w.heap.size (.slice (some ⟨gl, 0, none⟩) (lvF (dsL zs v) zs.length).length capl) (lvL zs v)) := HL
      clear HL HD
      go_wp2
      go_ret
      exact ⟨_, rfl, HF.out, hB⟩

end Go.Proofs.YtlodaeoikkjbkaaDoor
namespace Go.Proofs.YtlodaeoikkjbkaaDoor
set_option maxRecDepth 100000
open Go.RowKit

theorem levelRows_zero (n : Int) (b off cap : Nat) (zs : List Int) (v : Nat) (w : World) (hb : b < w.heap.size) (hc : Cells w b off zs) (hT : Tab w) (hg : isG n zs = true) (hv : v < zs.length) :
    Calls Tryd.prog 61 #[.agg #[.int .i64 n, .slice (some ⟨b, off, none⟩) zs.length cap], .int .i64 v, .int .i64 0] w fun e w' => ∃ (ls : List Nat) (gl capl : Nat), e = .returned (.slice (some ⟨gl, 0, none⟩) ls.length capl) ∧ w'.ownsRow w.heap.size 2 1 (.slice (some ⟨gl, 0, none⟩) ls.length capl) ls.length (natsV ls) ∧ LvOk zs v 0 ls ∧ 0 < ls.length ∧ Below w.heap.size w w' := by
  have h := levelRows_some n b off cap zs v 0 w hb hc hT hg hv
  rw [show ((0 : Nat) : Int) = 0 from rfl] at h
  refine h.mono ?_
  rintro e w' ⟨⟨u, ls, rfl, hown, hok⟩, hB⟩
  have hpos : 0 < ls.length := by
    refine Nat.pos_of_ne_zero fun h0 => ?_
    have := hok.last v
    rw [h0, lev_zero] at this
    simp at this
  obtain ⟨gl, capl, rfl, _, _⟩ := World.ownsRow.form hown hpos
  exact ⟨ls, gl, capl, rfl, hown, hok, hpos, hB⟩
theorem natsV_at {ls : List Nat} {k r : Nat} (h : ls[k]? = some r) : (natsV ls)[k]? = some (.int .i64 (r : Int)) := by unfold natsV; simp [h]
theorem pow_small {r m : Nat} (h : r < 2 ^ m) (hm : m ≤ 62) : (r : Int) ≤ 4611686018427387904 := by
  have : 2 ^ m ≤ 2 ^ 62 := Nat.pow_le_pow_right (by decide) hm
  omega

end Go.Proofs.YtlodaeoikkjbkaaDoor
