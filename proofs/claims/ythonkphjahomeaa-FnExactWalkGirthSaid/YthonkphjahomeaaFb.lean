/-
  impl.stepsOf. (A plain seat of bases and graphs of pairs.)
-/
import Derived.Test.YthonkphjahomeaaFa
import Derived.Test.YthonkphjahomeaaLf
namespace Go.Proofs.Ythonkphjahomeaa
set_option maxRecDepth 100000
open Go.RowKit

/-- Step s in memory. -/
def cellsT (m : Nat) (fs : List Int) (s : Nat) : List Value := [.int .i64 s, .int .i64 (stA m fs s 0), .int .i64 (stA m fs s 1), .int .i64 (stA m fs s 2)]
def stL (m : Nat) (fs : List Int) (N : Nat) : List Value := (List.range N).flatMap (cellsT m fs)
theorem stL_two (m : Nat) (fs : List Int) (N : Nat) : stL m fs (N + 2) = stL m fs N ++ (cellsT m fs N ++ cellsT m fs (N + 1)) := by
  unfold stL
  rw [List.range_succ, List.range_succ, List.flatMap_append, List.flatMap_append]
  simp
theorem cellsT_even (m : Nat) (fs : List Int) (j : Nat) : cellsT m fs (2 * j) = [.int .i64 (2 * j : Nat), .int .i64 (av fs j 0), .int .i64 (av fs j 1), .int .i64 (av fs j 2)] := by
  unfold cellsT; simp only [stA_even]
theorem cellsT_odd (m : Nat) (fs : List Int) (j : Nat) : cellsT m fs (2 * j + 1) = [.int .i64 (2 * j + 1 : Nat), .int .i64 (av fs j 1), .int .i64 (av fs j 0), .int .i64 (opp m (av fs j 2))] := by
  unfold cellsT; simp only [stA_odd0, stA_odd1, stA_odd2]
theorem cells_new (w : World) (xs : List Value) (t : TypeId) : ∀ j u, xs[j]? = some u → (w.alloc (.cells xs.toArray t)).cell? ((⟨w.heap.size, 0, none⟩ : Addr).add j) = some u := by
  intro j u hj
  have h := World.alloc_heap_new w (.cells xs.toArray t)
  rw [show (⟨w.heap.size, 0, none⟩ : Addr).add j = ⟨w.heap.size, j, none⟩ by unfold Addr.add; split <;> simp_all]
  rw [cell_of_row _ _ j _ _ _ h]
  simpa using hj
theorem ownsT_below {w w' : World} {base : Nat} {e : TypeId} {size : Nat} {v : Value} {n : Nat} {xs : List Value} (h : w.ownsRow base e size v n xs) (hb : Below w.heap.size w w') : w'.ownsRow base e size v n xs :=
  World.ownsRow.kept h (grown_of_below hb none) (by cases v.ownBlock <;> simp)
theorem infoT : (Try.prog.info? 43).map (fun i => (i.zero, i.size, i.bytes)) = some (some (.agg #[.int .i64 0, .int .i64 0, .int .i64 0, .int .i64 0]), 4, 32) := by kernel_rfl
theorem tmod_opp {m c : Nat} (h : c < m) : Int.tmod ((m : Int) - (c : Int)) (m : Int) = (opp m c : Int) := by
  rw [show (m : Int) - (c : Int) = ((m - c : Nat) : Int) by omega]
  rfl

set_option maxRecDepth 100000 in
set_option maxHeartbeats 3200000 in
theorem stepsOf_any (n m k cap : Nat) (sa : Option Addr) (fs : List Int) (w : World) (hs : Sa w (.slice sa k cap) k fs) (hav : AvOk n m k fs) (h1 : n ≤ 10 ∧ m ≤ 62 ∧ k ≤ 16) :
    Calls Try.prog 14 #[.agg #[.int .i64 n, .int .i64 m, .slice sa k cap]] w fun e w' => e = .returned (.slice (some ⟨w.heap.size + 1, 0, none⟩) (2 * k) (2 * k)) ∧ Hid (w'.ownsRow (w.heap.size + 1) 43 4 (.slice (some ⟨w.heap.size + 1, 0, none⟩) (2 * k) (2 * k)) (2 * k) (stL m fs (2 * k))) ∧ Below w.heap.size w w' := by
  obtain ⟨n2, m2, k16⟩ := h1
  obtain ⟨i0, hi, hz0, hz1, hz2⟩ := info_parts infoT
  have HI := Lib.hid hi; have HI0 := Lib.hid hz0; have HI1 := Lib.hid hz1; have HI2 := Lib.hid hz2
  have D0 : Below w.heap.size w (w.alloc (.cells #[.int .i64 n, .int .i64 m, .slice sa k cap] 30)) := (Below.refl _ _).alloc (Nat.le_refl _) _
  have HG0 := Lib.hid (World.alloc_heap_new w (.cells #[.int .i64 n, .int .i64 m, .slice sa k cap] 30))
  have HC := Lib.hid hs; have HAV := Lib.hid hav; have HK := Lib.hid hs.1
  obtain ⟨K, hKK⟩ : ∃ K, K = 2 * k := ⟨_, rfl⟩
  have HKK := Lib.hid hKK
  rw [← hKK]
  have wk : IntKind.i64.wrap (2 * (k : Int)) = (K : Int) := by rw [hKK]; rw [IntWalk.i64_in _ (by omega)]; push_cast; rfl
  have K32 : K ≤ 32 := by omega
  obtain ⟨W0, hW0⟩ : ∃ W0, W0 = w.alloc (.cells #[.int .i64 n, .int .i64 m, .slice sa k cap] 30) := ⟨_, rfl⟩
  have sz0 : W0.heap.size = w.heap.size + 1 := by rw [hW0]; simp
  have HSZ := Lib.hid sz0
  rw [← hW0] at HG0 D0
  obtain ⟨⟨b0, b1, b2⟩, -⟩ := three_cells HG0.out
  have DD := Lib.hid D0
  clear hs hav hKK hi hz0 hz1 hz2 sz0
  go_enter Try.func14, Try.ntmps14
  go_upto_region 1 with fail
  rw [← hW0]
  clear hW0
  go_wp2_with (at_make; refine wpList_make_own _ rfl _ _ 38 rfl W0.heap.size 43 i0 (.agg #[.int .i64 0, .int .i64 0, .int .i64 0, .int .i64 0]) 4 Try.underlying38 HI.out HI0.out HI1.out .i64 .i64 _ K rfl rfl (by first | rfl | omega) (by rw [HI2.out]; omega) (by unfold maxLen; omega) (Nat.le_refl _) ?_; intro w1 hown1 hgr1; have HO1 := Lib.hid hown1; have HG1 := Lib.hid hgr1; clear hown1 hgr1; have HB1 := Lib.hid ((HG1.out.block w.heap.size (by have := HSZ.out; omega) (by simp)).trans HG0.out); obtain ⟨⟨b0, b1, b2⟩, -⟩ := three_cells HB1.out)
  clear b0 b1 b2 D0
  have E1 : Below w.heap.size w w1 := ((Below.refl w.heap.size w).trans (DD.out)).grown HG1.out (by have := HSZ.out; omega) (fun k e => by cases e)
  have s1 : W0.heap.size ≤ w1.heap.size := HG1.out.size
  clear HG0 HG1
  obtain ⟨G, hG⟩ : ∃ G, G = W0.heap.size := ⟨_, rfl⟩
  rw [← hG] at HO1 HSZ s1 ⊢
  clear hG
  go_loopw [3, 16] (fun sv i wr => ∃ j J : Nat, j ≤ k ∧ Hid (J = 2 * j) ∧ i = .int .i64 j ∧ sv = .slice (some ⟨G, 0, none⟩) J K ∧ Hid (wr.ownsRow G 43 4 (.slice (some ⟨G, 0, none⟩) J K) J (stL m fs J)) ∧ Below w.heap.size w wr ∧ G ≤ wr.heap.size ∧ Hid (wr.heap[w.heap.size]? = some (.cells #[.int .i64 n, .int .i64 m, .slice sa k cap] 30 (0, 0)))) (fun _ i _ => k - (intOf i).toNat)
  case atStart => exact ⟨0, 0, Nat.zero_le _, rfl, rfl, rfl, HO1, E1, s1, HB1⟩
  case round =>
    clear HO1 E1 s1 HB1
    obtain ⟨j, J, hjk, HJ, rfl, rfl, HO, hE, hsz, HB⟩ := hrel
    by_cases hlt : j < k
    · have hlti : (j : Int) < k := by omega
      have hj0 : (0 : Int) ≤ j := by omega
      obtain ⟨e0, f0⟩ := HAV.out.zero hlt
      obtain ⟨e1, t0⟩ := HAV.out.one hlt
      obtain ⟨e2, c0⟩ := HAV.out.two hlt
      obtain ⟨b, off, rfl, hb, hcc⟩ : ∃ b off, sa = some ⟨b, off, none⟩ ∧ b < w.heap.size ∧ Cells w b off fs := by
        rcases HC.out.2 with ⟨_, _, _, e⟩ | ⟨b, off, _, e, h1, h2⟩
        · omega
        · injection e with e1 _ _
          exact ⟨b, off, e1, h1, h2⟩
      have HCW := hcc.below hE hb
      have z0 := HCW (j * 3) (by rw [HK.out]; omega)
      have z1 := HCW (j * 3 + 1) (by rw [HK.out]; omega)
      have z2 := HCW (j * 3 + 2) (by rw [HK.out]; omega)
      rw [e0] at z0
      rw [e1] at z1
      rw [e2] at z2
      rw [← Nat.add_assoc] at z1 z2
      obtain ⟨f, hf⟩ : ∃ f, f = av fs j 0 := ⟨_, rfl⟩
      obtain ⟨t, ht⟩ : ∃ t, t = av fs j 1 := ⟨_, rfl⟩
      obtain ⟨c, hc⟩ : ∃ c, c = av fs j 2 := ⟨_, rfl⟩
      rw [← hf] at z0 f0
      rw [← ht] at z1 t0
      rw [← hc] at z2 c0
      obtain ⟨o, ho⟩ : ∃ o, o = opp m c := ⟨_, rfl⟩
      have tm : Int.tmod ((m : Int) - (c : Int)) (m : Int) = (o : Int) := by rw [ho]; exact tmod_opp c0
      have ob : o < m := by rw [ho]; exact Nat.mod_lt _ (by omega)
      have g1 : IntKind.i64.wrap (2 * (j : Int)) = (J : Int) := by rw [HJ.out, IntWalk.i64_in _ (by omega)]; push_cast; rfl
      have g2 : IntKind.i64.wrap ((m : Int) - (c : Int)) = (m : Int) - (c : Int) := IntWalk.i64_in _ (by omega)
      have g3 : IntKind.i64.wrap (o : Int) = (o : Int) := IntWalk.i64_in _ (by omega)
      have J32 : J + 2 ≤ K := by have := HJ.out; have := HKK.out; omega
      have g4 : IntKind.i64.wrap ((J : Int) + 1) = (J : Int) + 1 := IntWalk.i64_in _ (by omega)
      have g5 : IntKind.i64.wrap ((j : Int) + 1) = (j : Int) + 1 := IntWalk.i64_in _ (by omega)
      have hm0 : ¬ m = 0 := by omega
      have HE1 : Hid (cellsT m fs J = [.int .i64 (J : Nat), .int .i64 f, .int .i64 t, .int .i64 c]) := by show _ = _; rw [HJ.out, cellsT_even, hf, ht, hc]
      have HE2 : Hid (cellsT m fs (J + 1) = [.int .i64 ((J : Int) + 1), .int .i64 t, .int .i64 f, .int .i64 o]) := by show _ = _; rw [HJ.out, cellsT_odd, hf, ht, ho, hc]; push_cast; rfl
      obtain ⟨⟨b0, b1, b2⟩, -⟩ := three_cells HB.out
      clear e0 e1 e2 hf ht hc ho HCW hcc
      go_upto_region 5 with fail
      obtain ⟨w4, h4⟩ : ∃ w4, w4 = wr.alloc (.cells #[.int .i64 f, .int .i64 t, .int .i64 c] 41) := ⟨_, rfl⟩
      have X4 : Hid (w4.heap[wr.heap.size]? = some (.cells #[.int .i64 f, .int .i64 t, .int .i64 c] 41 (0, 0))) := by rw [h4]; exact World.alloc_heap_new wr _
      have hb4 : Below wr.heap.size wr w4 := by rw [h4]; exact (Below.refl _ _).alloc (Nat.le_refl _) _
      have HO4 := Lib.hid (ownsT_below HO.out hb4)
      have hE4 := hE.trans (hb4.mono hE.size)
      have s4 : wr.heap.size + 1 ≤ w4.heap.size := by rw [h4]; simp
      have HB4 : Hid (w4.heap[w.heap.size]? = some (.cells #[.int .i64 n, .int .i64 m, .slice (some ⟨b, off, none⟩) k cap] 30 (0, 0))) := (hb4.block _ (Array.getElem?_eq_some_iff.1 HB.out).1).trans HB.out
      rw [← h4]
      clear h4 hb4 b0 b1 b2 z0 z1 z2 HO hE HB
      obtain ⟨⟨b0, b1, b2⟩, -⟩ := three_cells HB4.out
      obtain ⟨⟨a0, a1, a2⟩, -⟩ := three_cells X4.out
      go_wp2_with fail
      have sw : w.heap.size + 1 ≤ wr.heap.size := by have := HSZ.out; omega
      have sw4 : w.heap.size + 1 ≤ w4.heap.size := by omega
      have q1 : ¬ w.heap.size = w4.heap.size := by omega
      have q2 : ¬ wr.heap.size = w4.heap.size := by omega
      obtain ⟨⟨p0, p1, p2⟩, -⟩ := three_cells (heap_old_at HB4.out (.cells #[.int .i64 0, .int .i64 0, .int .i64 0] 41))
      obtain ⟨⟨r0, r1, r2⟩, -⟩ := three_cells (heap_old_at X4.out (.cells #[.int .i64 0, .int .i64 0, .int .i64 0] 41))
      go_region
      obtain ⟨w5, h5⟩ : ∃ w5, w5 = (w4.alloc (.cells #[.int .i64 t, .int .i64 f, .int .i64 o] 41)).drew := ⟨_, rfl⟩
      have hb5 : Below w4.heap.size w4 w5 := by rw [h5]; exact ((Below.refl _ _).alloc (Nat.le_refl _) _).drew
      have X5 : Hid (w5.heap[w4.heap.size]? = some (.cells #[.int .i64 t, .int .i64 f, .int .i64 o] 41 (0, 0))) := by rw [h5]; exact World.alloc_heap_new w4 _
      have X45 : Hid (w5.heap[wr.heap.size]? = some (.cells #[.int .i64 f, .int .i64 t, .int .i64 c] 41 (0, 0))) := (hb5.block _ (by omega)).trans X4.out
      have HB5 : Hid (w5.heap[w.heap.size]? = some (.cells #[.int .i64 n, .int .i64 m, .slice (some ⟨b, off, none⟩) k cap] 30 (0, 0))) := (hb5.block _ (by omega)).trans HB4.out
      have HO5 := Lib.hid (ownsT_below HO4.out hb5)
      have hE5 := hE4.trans (hb5.mono hE4.size)
      have s5 : w4.heap.size + 1 ≤ w5.heap.size := (Array.getElem?_eq_some_iff.1 X5.out).1
      rw [← h5]
      clear h5 hb5 b0 b1 b2 a0 a1 a2 p0 p1 p2 r0 r1 r2 X4 HB4 HO4 hE4 tm
      obtain ⟨⟨a0, a1, a2⟩, -⟩ := three_cells X45.out
      obtain ⟨⟨p0, p1, p2⟩, -⟩ := three_cells X5.out
      go_wp2_with (at_builtin; refine wpList_append_fits _ rfl (.tmp 36) (.tmp 44) 38 rfl G 43 i0 4 Try.underlying38 HI.out HI1.out G J K _ rfl (HO5.out.alloc _) ⟨w5.heap.size, 0, none⟩ 2 2 [.int .i64 (J : Nat), .int .i64 f, .int .i64 t, .int .i64 c, .int .i64 ((J : Int) + 1), .int .i64 t, .int .i64 f, .int .i64 o] rfl rfl (cells_new w5 _ _) (by simp [Value.oneCell']) (by omega) ?_; intro w6 hown6 hgr6; have HO6 := Lib.hid hown6; have HG6 := Lib.hid hgr6; clear hown6 hgr6)
      have HS2 : Hid (stL m fs (J + 2) = stL m fs J ++ [.int .i64 (J : Nat), .int .i64 f, .int .i64 t, .int .i64 c, .int .i64 ((J : Int) + 1), .int .i64 t, .int .i64 f, .int .i64 o]) := by show _ = _; rw [stL_two, HE1.out, HE2.out]; rfl
      have hE6 : Below w.heap.size w w6 := (hE5.alloc (by omega) _).grown HG6.out (by simp; omega) (fun r e => by cases e; have := HSZ.out; omega)
      refine ⟨⟨j + 1, J + 2, by omega, ?_, by push_cast; rfl, rfl, ?_, hE6, ?_, ?_⟩, by simp [intOf]; omega⟩
      · show _ = _; have := HJ.out; omega
      · show World.ownsRow _ _ _ _ _ _ _; rw [HS2.out]; exact HO6.out
      · have := HG6.out.size; simp at this; omega
      · exact (HG6.out.block w.heap.size (by simp; omega) (fun e => by injection e with e; have := HSZ.out; omega)).trans (heap_old_at HB5.out _)
    · obtain rfl : j = k := by omega
      have HJK : Hid (J = K) := by show _ = _; rw [HJ.out, HKK.out]
      go_wp2_with fail
      go_ret
      refine ⟨?_, ?_, hE⟩
      · rw [HJK.out, HSZ.out]; rfl
      · rw [← HSZ.out]; have h := HO; rw [HJK.out] at h; exact h
end Go.Proofs.Ythonkphjahomeaa
