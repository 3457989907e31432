/-
  impl.wordOf: a word as a closure of closures. (A tied seat.)
-/
import Derived.Test.YtklgimikdnokcaaDoorWa
namespace Go.Proofs.YtklgimikdnokcaaDoor
set_option maxRecDepth 100000
open Go.RowKit

theorem run_store_func (P : Program) (w : World) (a : Addr) (m : Mode) (fn : Fn) (x y : Array Value) : (store a (.func fn x y) m).run P w = stored P w a (.func fn x y) m := run_store P w a _ m rfl
attribute [local go_sem] run_store_func

/-- The value v is the word of the letters ls, the last one first: closures over a group's box, a set's box, and boxes for each letter. -/
def WordAt (W : World) (gb sb : Nat) : List Nat → Value → Prop
  | [], v => v = .func (.func 61) #[] #[]
  | l :: ls, v => ∃ (bb lb : Nat) (u : Value), v = .func (.func 62) #[] #[.pointer (some ⟨gb, 0, none⟩), .pointer (some ⟨bb, 0, none⟩), .pointer (some ⟨sb, 0, none⟩), .pointer (some ⟨lb, 0, none⟩)] ∧ W.heap[bb]? = some (.cells #[u] 62 (0, 0)) ∧ W.heap[lb]? = some (.cells #[.int .i64 l] 2 (0, 0)) ∧ WordAt W gb sb ls u
theorem WordAt.below {w w' : World} (hb : Below w.heap.size w w') {gb sb : Nat} : ∀ (ls : List Nat) (v : Value), WordAt w gb sb ls v → WordAt w' gb sb ls v
  | [], _, h => h
  | _ :: ls, _, h => by
    obtain ⟨bb, lb, u, rfl, h1, h2, h3⟩ := h
    exact ⟨bb, lb, u, rfl, (hb.block bb (Array.getElem?_eq_some_iff.1 h1).1).trans h1, (hb.block lb (Array.getElem?_eq_some_iff.1 h2).1).trans h2, WordAt.below hb ls u h3⟩
theorem WordAt.form {W : World} {gb sb : Nat} : ∀ {ls : List Nat} {v : Value}, WordAt W gb sb ls v → ∃ f caps, v = .func (.func f) #[] caps
  | [], _, h => ⟨_, _, h⟩
  | _ :: _, _, h => by
    obtain ⟨_, _, _, rfl, _⟩ := h
    exact ⟨_, _, rfl⟩
theorem one_cell {w : World} {b : Nat} {u : Value} {t : TypeId} (h : w.heap[b]? = some (.cells #[u] t (0, 0))) : w.cell? ⟨b, 0, none⟩ = some u := by rw [cell_of_row w b 0 _ _ _ h]; rfl
/-- The first t letters, the last one first. -/
def lets (ws : List Int) : Nat → List Nat
  | 0 => []
  | t + 1 => (el ws t).toNat :: lets ws t
theorem lets_lt {ws : List Int} {m : Nat} (h : elOk m ws ws.length = true) : ∀ t, t ≤ ws.length → ∀ l, l ∈ lets ws t → l < m
  | 0, _, l, hl => by simp [lets] at hl
  | t + 1, ht, l, hl => by
    have := elOk_at h (show t < ws.length by omega)
    simp only [lets, List.mem_cons] at hl
    rcases hl with rfl | hl
    · omega
    · exact lets_lt h t (by omega) l hl

/-- A function value called with x. -/
def CallsV (v : Value) (x : Int) (W : World) (R : Ending → World → Prop) : Prop := ∃ f caps, v = .func (.func f) #[] caps ∧ Calls Tryd.prog f (#[.int .i64 x] ++ caps) W R
theorem CallsV.mk {f : FuncId} {caps : Array Value} {x : Int} {W : World} {R : Ending → World → Prop} (h : Calls Tryd.prog f (#[.int .i64 x] ++ caps) W R) : CallsV (.func (.func f) #[] caps) x W R := ⟨f, caps, rfl, h⟩
theorem CallsV.out {f : FuncId} {caps : Array Value} {x : Int} {W : World} {R : Ending → World → Prop} (h : CallsV (.func (.func f) #[] caps) x W R) : Calls Tryd.prog f (#[.int .i64 x] ++ caps) W R := by
  obtain ⟨f', caps', e, hc⟩ := h
  cases e
  exact hc

set_option maxHeartbeats 1600000 in
/-- What a word's closure returns. -/
theorem word_calls_0 (p gb sb b off cap x : Nat) (js : List Int) (h : gOk 0 p = true) (hx : x < gOrd 0 p) (hj : elOk (gOrd 0 p) js js.length = true) (ls : List Nat) : ∀ (w : World) (v : Value), WordAt w gb sb ls v → (∀ l, l ∈ ls → l < js.length) →
    w.heap[gb]? = some (.cells #[.iface 84 (.agg #[.int .i64 p])] 48 (0, 0)) → w.heap[sb]? = some (.cells #[.slice (some ⟨b, off, none⟩) js.length cap] 24 (0, 0)) → b < w.heap.size → Cells w b off js →
    CallsV v x w fun e w' => e = .returned (.int .i64 (wordP 0 p js x ls : Nat)) ∧ Below w.heap.size w w' := by
  induction ls with
  | nil =>
    intro w v hv _ _ _ _ _
    obtain rfl : v = _ := hv
    exact CallsV.mk ((word1_any x w).mono fun e w' ⟨he, hw⟩ => ⟨he, hw ▸ Below.refl _ _⟩)
  | cons l ls ih =>
    intro w v hv hl hg hs hb hc
    obtain ⟨bb, lb, u, rfl, h1, h2, h3⟩ := hv
    have hll := hl l List.mem_cons_self
    have he := elOk_at hj hll
    obtain ⟨y, hy⟩ := Int.eq_ofNat_of_zero_le he.1
    have hcl := hc l hll
    rw [hy] at hcl he
    have ih2 : ∀ W : World, Below w.heap.size w W → CallsV u x W fun e w' => e = .returned (.int .i64 (wordP 0 p js x ls : Nat)) ∧ Below W.heap.size W w' := fun W hW =>
      ih W u (WordAt.below hW _ _ h3) (fun z hz => hl z (List.mem_cons_of_mem _ hz)) ((hW.block gb (Array.getElem?_eq_some_iff.1 hg).1).trans hg) ((hW.block sb (Array.getElem?_eq_some_iff.1 hs).1).trans hs) (Nat.lt_of_lt_of_le hb hW.size) (hc.below hW hb)
    have hzz := wordP_lt (js := js) h hx ls
    have e0 : wordP 0 p js x (l :: ls) = gMul 0 p (wordP 0 p js x ls) y := by simp only [wordP, hy, Int.toNat_natCast]
    rw [e0]
    refine CallsV.mk ?_
    clear ih hc hy
    cases ls with
    | nil =>
      obtain rfl : u = _ := h3
      exact word2_0_1 p x y _ gb bb sb lb b off js.length cap l w h hzz (by omega) hll (Array.getElem?_eq_some_iff.1 hg).1 (Array.getElem?_eq_some_iff.1 h1).1 (Array.getElem?_eq_some_iff.1 hs).1 (Array.getElem?_eq_some_iff.1 h2).1 hb ⟨one_cell hg, one_cell h1, one_cell hs, one_cell h2, hcl⟩ fun W hW => (ih2 W hW).out
    | cons l2 ls =>
      obtain ⟨bb2, lb2, u2, rfl, -, -, -⟩ := h3
      exact word2_0_2 p x y _ gb bb sb lb b off js.length cap l bb2 lb2 w h hzz (by omega) hll (Array.getElem?_eq_some_iff.1 hg).1 (Array.getElem?_eq_some_iff.1 h1).1 (Array.getElem?_eq_some_iff.1 hs).1 (Array.getElem?_eq_some_iff.1 h2).1 hb ⟨one_cell hg, one_cell h1, one_cell hs, one_cell h2, hcl⟩ fun W hW => (ih2 W hW).out

set_option maxHeartbeats 1600000 in
set_option maxRecDepth 100000 in
theorem wordOf_0 (p sl sc : Nat) (sa : Option Addr) (wv : Value) (ws : List Int) (w : World) (hs : Sl w wv ws) (hl : ws.length ≤ 16) (m : Nat) (hm : elOk m ws ws.length = true) :
    Calls Tryd.prog 44 #[gIf 0 p, .slice sa sl sc, wv] w fun e w' => (∃ v, e = .returned v ∧ WordAt w' w.heap.size (w.heap.size + 1) (lets ws ws.length) v) ∧ w'.heap[w.heap.size]? = some (.cells #[gIf 0 p] 48 (0, 0)) ∧ w'.heap[w.heap.size + 1]? = some (.cells #[.slice sa sl sc] 24 (0, 0)) ∧ Below w.heap.size w w' := by
  obtain ⟨W, hW⟩ : ∃ W, W = (w.alloc (.cells #[gIf 0 p] 48)).alloc (.cells #[.slice sa sl sc] 24) := ⟨_, rfl⟩
  have D0 : Below w.heap.size w W := by rw [hW]; exact ((Below.refl _ _).alloc (Nat.le_refl _) _).alloc (by simp) _
  have HG : Hid (W.heap[w.heap.size]? = some (.cells #[gIf 0 p] 48 (0, 0))) := by rw [hW]; exact heap_old_at (World.alloc_heap_new w _) _
  have HSB : Hid (W.heap[w.heap.size + 1]? = some (.cells #[.slice sa sl sc] 24 (0, 0))) := by rw [hW]; exact heap_new_at _ _ _ (by simp)
  have hsz : w.heap.size + 2 ≤ W.heap.size := by rw [hW]; simp
  have hmkf : ∀ (fn : Fn) (first cap : Array Value) (w : World), (Instr.makeFunc fn first cap).run Tryd.prog w = .ok (.func fn first cap) w := fun _ _ _ _ => rfl
  have HS := Lib.hid hs
  have HM := Lib.hid hm
  have hf := slForm hs
  clear hs hm
  obtain ⟨wa, wc, rfl⟩ : ∃ a c, wv = .slice a ws.length c := ⟨_, _, hf⟩
  clear hf
  unfold gIf at *
  go_enter Tryd.func44, Tryd.ntmps44
  go_wp2_with fail
  rw [← hW]
  clear hW
  go_loopw [7, 13] (fun v i wr => ∃ t : Nat, t ≤ ws.length ∧ i = .int .i64 t ∧ Hid (WordAt wr w.heap.size (w.heap.size + 1) (lets ws t) v) ∧ Below W.heap.size W wr) (fun _ i _ => ws.length - (intOf i).toNat)
  case atStart => exact ⟨0, Nat.zero_le _, rfl, rfl, Below.refl _ _⟩
  case round =>
    obtain ⟨t, ht, rfl, HV, hE⟩ := hrel
    obtain ⟨vf, vc, hvf⟩ := HV.out.form
    subst hvf
    by_cases hlt : (t : Int) < ws.length
    · have htl : t < ws.length := by omega
      obtain ⟨b, off, cap, e, hb, hcc⟩ : ∃ b off cap, Value.slice wa ws.length wc = .slice (some ⟨b, off, none⟩) ws.length cap ∧ b < w.heap.size ∧ Cells w b off ws := by
        rcases HS.out with ⟨_, _, _, e⟩ | h
        · rw [e] at htl; simp at htl
        · exact h
      injection e with e1 _ _
      subst e1
      have hz : wr.cell? ⟨b, off + t, none⟩ = some (.int .i64 (el ws t)) := (hE.cell (p := ⟨b, off + t, none⟩) (by simp; omega)).trans ((D0.cell (p := ⟨b, off + t, none⟩) hb).trans (hcc t htl))
      have he := elOk_at HM.out htl
      obtain ⟨y, hy⟩ := Int.eq_ofNat_of_zero_le he.1
      rw [hy] at hz
      have ht0 : (0 : Int) ≤ t := by omega
      have hsE := hE.size
      obtain ⟨w3, h3⟩ : ∃ w3, w3 = (wr.alloc (.cells #[.int .i64 y] 2)).alloc (.cells #[.func (.func vf) #[] vc] 62) := ⟨_, rfl⟩
      have HV3 : Hid (WordAt w3 w.heap.size (w.heap.size + 1) (lets ws (t + 1)) (.func (.func 62) #[] #[.pointer (some ⟨w.heap.size, 0, none⟩), .pointer (some ⟨wr.heap.size + 1, 0, none⟩), .pointer (some ⟨w.heap.size + 1, 0, none⟩), .pointer (some ⟨wr.heap.size, 0, none⟩)])) := by
        show WordAt _ _ _ _ _
        simp only [lets, hy, Int.toNat_natCast]
        refine ⟨wr.heap.size + 1, wr.heap.size, .func (.func vf) #[] vc, rfl, ?_, ?_, ?_⟩
        · rw [h3]; exact heap_new_at _ _ _ (by simp)
        · rw [h3]; exact heap_old_at (World.alloc_heap_new wr _) _
        · rw [h3]; exact WordAt.below (((Below.refl _ _).alloc (Nat.le_refl _) _).alloc (by simp) _) _ _ HV.out
      have hE3 : Below W.heap.size W w3 := by rw [h3]; exact (hE.alloc hsE _).alloc (by simp; omega) _
      clear hcc he hy HV hE
      go_wp2_with fail
      rw [← h3]
      clear h3
      go_roundw
      case rel => exact ⟨t + 1, by omega, by go_num, HV3, hE3⟩
      case measure => simp [intOf]; omega
    · obtain rfl : t = ws.length := by omega
      go_wp2_with fail
      go_ret
      exact ⟨⟨_, rfl, HV.out⟩, (hE.block w.heap.size (by omega)).trans HG.out, (hE.block (w.heap.size + 1) (by omega)).trans HSB.out, D0.trans (hE.mono D0.size)⟩

set_option maxHeartbeats 1600000 in
/-- What a word's closure returns. -/
theorem word_calls_1 (p gb sb b off cap x : Nat) (js : List Int) (h : gOk 1 p = true) (hx : x < gOrd 1 p) (hj : elOk (gOrd 1 p) js js.length = true) (ls : List Nat) : ∀ (w : World) (v : Value), WordAt w gb sb ls v → (∀ l, l ∈ ls → l < js.length) →
    w.heap[gb]? = some (.cells #[.iface 85 (.agg #[.int .i64 p])] 48 (0, 0)) → w.heap[sb]? = some (.cells #[.slice (some ⟨b, off, none⟩) js.length cap] 24 (0, 0)) → b < w.heap.size → Cells w b off js →
    CallsV v x w fun e w' => e = .returned (.int .i64 (wordP 1 p js x ls : Nat)) ∧ Below w.heap.size w w' := by
  induction ls with
  | nil =>
    intro w v hv _ _ _ _ _
    obtain rfl : v = _ := hv
    exact CallsV.mk ((word1_any x w).mono fun e w' ⟨he, hw⟩ => ⟨he, hw ▸ Below.refl _ _⟩)
  | cons l ls ih =>
    intro w v hv hl hg hs hb hc
    obtain ⟨bb, lb, u, rfl, h1, h2, h3⟩ := hv
    have hll := hl l List.mem_cons_self
    have he := elOk_at hj hll
    obtain ⟨y, hy⟩ := Int.eq_ofNat_of_zero_le he.1
    have hcl := hc l hll
    rw [hy] at hcl he
    have ih2 : ∀ W : World, Below w.heap.size w W → CallsV u x W fun e w' => e = .returned (.int .i64 (wordP 1 p js x ls : Nat)) ∧ Below W.heap.size W w' := fun W hW =>
      ih W u (WordAt.below hW _ _ h3) (fun z hz => hl z (List.mem_cons_of_mem _ hz)) ((hW.block gb (Array.getElem?_eq_some_iff.1 hg).1).trans hg) ((hW.block sb (Array.getElem?_eq_some_iff.1 hs).1).trans hs) (Nat.lt_of_lt_of_le hb hW.size) (hc.below hW hb)
    have hzz := wordP_lt (js := js) h hx ls
    have e0 : wordP 1 p js x (l :: ls) = gMul 1 p (wordP 1 p js x ls) y := by simp only [wordP, hy, Int.toNat_natCast]
    rw [e0]
    refine CallsV.mk ?_
    clear ih hc hy
    cases ls with
    | nil =>
      obtain rfl : u = _ := h3
      exact word2_1_1 p x y _ gb bb sb lb b off js.length cap l w h hzz (by omega) hll (Array.getElem?_eq_some_iff.1 hg).1 (Array.getElem?_eq_some_iff.1 h1).1 (Array.getElem?_eq_some_iff.1 hs).1 (Array.getElem?_eq_some_iff.1 h2).1 hb ⟨one_cell hg, one_cell h1, one_cell hs, one_cell h2, hcl⟩ fun W hW => (ih2 W hW).out
    | cons l2 ls =>
      obtain ⟨bb2, lb2, u2, rfl, -, -, -⟩ := h3
      exact word2_1_2 p x y _ gb bb sb lb b off js.length cap l bb2 lb2 w h hzz (by omega) hll (Array.getElem?_eq_some_iff.1 hg).1 (Array.getElem?_eq_some_iff.1 h1).1 (Array.getElem?_eq_some_iff.1 hs).1 (Array.getElem?_eq_some_iff.1 h2).1 hb ⟨one_cell hg, one_cell h1, one_cell hs, one_cell h2, hcl⟩ fun W hW => (ih2 W hW).out

set_option maxHeartbeats 1600000 in
set_option maxRecDepth 100000 in
theorem wordOf_1 (p sl sc : Nat) (sa : Option Addr) (wv : Value) (ws : List Int) (w : World) (hs : Sl w wv ws) (hl : ws.length ≤ 16) (m : Nat) (hm : elOk m ws ws.length = true) :
    Calls Tryd.prog 44 #[gIf 1 p, .slice sa sl sc, wv] w fun e w' => (∃ v, e = .returned v ∧ WordAt w' w.heap.size (w.heap.size + 1) (lets ws ws.length) v) ∧ w'.heap[w.heap.size]? = some (.cells #[gIf 1 p] 48 (0, 0)) ∧ w'.heap[w.heap.size + 1]? = some (.cells #[.slice sa sl sc] 24 (0, 0)) ∧ Below w.heap.size w w' := by
  obtain ⟨W, hW⟩ : ∃ W, W = (w.alloc (.cells #[gIf 1 p] 48)).alloc (.cells #[.slice sa sl sc] 24) := ⟨_, rfl⟩
  have D0 : Below w.heap.size w W := by rw [hW]; exact ((Below.refl _ _).alloc (Nat.le_refl _) _).alloc (by simp) _
  have HG : Hid (W.heap[w.heap.size]? = some (.cells #[gIf 1 p] 48 (0, 0))) := by rw [hW]; exact heap_old_at (World.alloc_heap_new w _) _
  have HSB : Hid (W.heap[w.heap.size + 1]? = some (.cells #[.slice sa sl sc] 24 (0, 0))) := by rw [hW]; exact heap_new_at _ _ _ (by simp)
  have hsz : w.heap.size + 2 ≤ W.heap.size := by rw [hW]; simp
  have hmkf : ∀ (fn : Fn) (first cap : Array Value) (w : World), (Instr.makeFunc fn first cap).run Tryd.prog w = .ok (.func fn first cap) w := fun _ _ _ _ => rfl
  have HS := Lib.hid hs
  have HM := Lib.hid hm
  have hf := slForm hs
  clear hs hm
  obtain ⟨wa, wc, rfl⟩ : ∃ a c, wv = .slice a ws.length c := ⟨_, _, hf⟩
  clear hf
  unfold gIf at *
  go_enter Tryd.func44, Tryd.ntmps44
  go_wp2_with fail
  rw [← hW]
  clear hW
  go_loopw [7, 13] (fun v i wr => ∃ t : Nat, t ≤ ws.length ∧ i = .int .i64 t ∧ Hid (WordAt wr w.heap.size (w.heap.size + 1) (lets ws t) v) ∧ Below W.heap.size W wr) (fun _ i _ => ws.length - (intOf i).toNat)
  case atStart => exact ⟨0, Nat.zero_le _, rfl, rfl, Below.refl _ _⟩
  case round =>
    obtain ⟨t, ht, rfl, HV, hE⟩ := hrel
    obtain ⟨vf, vc, hvf⟩ := HV.out.form
    subst hvf
    by_cases hlt : (t : Int) < ws.length
    · have htl : t < ws.length := by omega
      obtain ⟨b, off, cap, e, hb, hcc⟩ : ∃ b off cap, Value.slice wa ws.length wc = .slice (some ⟨b, off, none⟩) ws.length cap ∧ b < w.heap.size ∧ Cells w b off ws := by
        rcases HS.out with ⟨_, _, _, e⟩ | h
        · rw [e] at htl; simp at htl
        · exact h
      injection e with e1 _ _
      subst e1
      have hz : wr.cell? ⟨b, off + t, none⟩ = some (.int .i64 (el ws t)) := (hE.cell (p := ⟨b, off + t, none⟩) (by simp; omega)).trans ((D0.cell (p := ⟨b, off + t, none⟩) hb).trans (hcc t htl))
      have he := elOk_at HM.out htl
      obtain ⟨y, hy⟩ := Int.eq_ofNat_of_zero_le he.1
      rw [hy] at hz
      have ht0 : (0 : Int) ≤ t := by omega
      have hsE := hE.size
      obtain ⟨w3, h3⟩ : ∃ w3, w3 = (wr.alloc (.cells #[.int .i64 y] 2)).alloc (.cells #[.func (.func vf) #[] vc] 62) := ⟨_, rfl⟩
      have HV3 : Hid (WordAt w3 w.heap.size (w.heap.size + 1) (lets ws (t + 1)) (.func (.func 62) #[] #[.pointer (some ⟨w.heap.size, 0, none⟩), .pointer (some ⟨wr.heap.size + 1, 0, none⟩), .pointer (some ⟨w.heap.size + 1, 0, none⟩), .pointer (some ⟨wr.heap.size, 0, none⟩)])) := by
        show WordAt _ _ _ _ _
        simp only [lets, hy, Int.toNat_natCast]
        refine ⟨wr.heap.size + 1, wr.heap.size, .func (.func vf) #[] vc, rfl, ?_, ?_, ?_⟩
        · rw [h3]; exact heap_new_at _ _ _ (by simp)
        · rw [h3]; exact heap_old_at (World.alloc_heap_new wr _) _
        · rw [h3]; exact WordAt.below (((Below.refl _ _).alloc (Nat.le_refl _) _).alloc (by simp) _) _ _ HV.out
      have hE3 : Below W.heap.size W w3 := by rw [h3]; exact (hE.alloc hsE _).alloc (by simp; omega) _
      clear hcc he hy HV hE
      go_wp2_with fail
      rw [← h3]
      clear h3
      go_roundw
      case rel => exact ⟨t + 1, by omega, by go_num, HV3, hE3⟩
      case measure => simp [intOf]; omega
    · obtain rfl : t = ws.length := by omega
      go_wp2_with fail
      go_ret
      exact ⟨⟨_, rfl, HV.out⟩, (hE.block w.heap.size (by omega)).trans HG.out, (hE.block (w.heap.size + 1) (by omega)).trans HSB.out, D0.trans (hE.mono D0.size)⟩

set_option maxHeartbeats 1600000 in
/-- What a word's closure returns. -/
theorem word_calls_2 (p gb sb b off cap x : Nat) (js : List Int) (h : gOk 2 p = true) (hx : x < gOrd 2 p) (hj : elOk (gOrd 2 p) js js.length = true) (ls : List Nat) : ∀ (w : World) (v : Value), WordAt w gb sb ls v → (∀ l, l ∈ ls → l < js.length) →
    w.heap[gb]? = some (.cells #[.iface 88 (.agg #[.int .i64 p])] 48 (0, 0)) → w.heap[sb]? = some (.cells #[.slice (some ⟨b, off, none⟩) js.length cap] 24 (0, 0)) → b < w.heap.size → Cells w b off js →
    CallsV v x w fun e w' => e = .returned (.int .i64 (wordP 2 p js x ls : Nat)) ∧ Below w.heap.size w w' := by
  induction ls with
  | nil =>
    intro w v hv _ _ _ _ _
    obtain rfl : v = _ := hv
    exact CallsV.mk ((word1_any x w).mono fun e w' ⟨he, hw⟩ => ⟨he, hw ▸ Below.refl _ _⟩)
  | cons l ls ih =>
    intro w v hv hl hg hs hb hc
    obtain ⟨bb, lb, u, rfl, h1, h2, h3⟩ := hv
    have hll := hl l List.mem_cons_self
    have he := elOk_at hj hll
    obtain ⟨y, hy⟩ := Int.eq_ofNat_of_zero_le he.1
    have hcl := hc l hll
    rw [hy] at hcl he
    have ih2 : ∀ W : World, Below w.heap.size w W → CallsV u x W fun e w' => e = .returned (.int .i64 (wordP 2 p js x ls : Nat)) ∧ Below W.heap.size W w' := fun W hW =>
      ih W u (WordAt.below hW _ _ h3) (fun z hz => hl z (List.mem_cons_of_mem _ hz)) ((hW.block gb (Array.getElem?_eq_some_iff.1 hg).1).trans hg) ((hW.block sb (Array.getElem?_eq_some_iff.1 hs).1).trans hs) (Nat.lt_of_lt_of_le hb hW.size) (hc.below hW hb)
    have hzz := wordP_lt (js := js) h hx ls
    have e0 : wordP 2 p js x (l :: ls) = gMul 2 p (wordP 2 p js x ls) y := by simp only [wordP, hy, Int.toNat_natCast]
    rw [e0]
    refine CallsV.mk ?_
    clear ih hc hy
    cases ls with
    | nil =>
      obtain rfl : u = _ := h3
      exact word2_2_1 p x y _ gb bb sb lb b off js.length cap l w h hzz (by omega) hll (Array.getElem?_eq_some_iff.1 hg).1 (Array.getElem?_eq_some_iff.1 h1).1 (Array.getElem?_eq_some_iff.1 hs).1 (Array.getElem?_eq_some_iff.1 h2).1 hb ⟨one_cell hg, one_cell h1, one_cell hs, one_cell h2, hcl⟩ fun W hW => (ih2 W hW).out
    | cons l2 ls =>
      obtain ⟨bb2, lb2, u2, rfl, -, -, -⟩ := h3
      exact word2_2_2 p x y _ gb bb sb lb b off js.length cap l bb2 lb2 w h hzz (by omega) hll (Array.getElem?_eq_some_iff.1 hg).1 (Array.getElem?_eq_some_iff.1 h1).1 (Array.getElem?_eq_some_iff.1 hs).1 (Array.getElem?_eq_some_iff.1 h2).1 hb ⟨one_cell hg, one_cell h1, one_cell hs, one_cell h2, hcl⟩ fun W hW => (ih2 W hW).out

set_option maxHeartbeats 1600000 in
set_option maxRecDepth 100000 in
theorem wordOf_2 (p sl sc : Nat) (sa : Option Addr) (wv : Value) (ws : List Int) (w : World) (hs : Sl w wv ws) (hl : ws.length ≤ 16) (m : Nat) (hm : elOk m ws ws.length = true) :
    Calls Tryd.prog 44 #[gIf 2 p, .slice sa sl sc, wv] w fun e w' => (∃ v, e = .returned v ∧ WordAt w' w.heap.size (w.heap.size + 1) (lets ws ws.length) v) ∧ w'.heap[w.heap.size]? = some (.cells #[gIf 2 p] 48 (0, 0)) ∧ w'.heap[w.heap.size + 1]? = some (.cells #[.slice sa sl sc] 24 (0, 0)) ∧ Below w.heap.size w w' := by
  obtain ⟨W, hW⟩ : ∃ W, W = (w.alloc (.cells #[gIf 2 p] 48)).alloc (.cells #[.slice sa sl sc] 24) := ⟨_, rfl⟩
  have D0 : Below w.heap.size w W := by rw [hW]; exact ((Below.refl _ _).alloc (Nat.le_refl _) _).alloc (by simp) _
  have HG : Hid (W.heap[w.heap.size]? = some (.cells #[gIf 2 p] 48 (0, 0))) := by rw [hW]; exact heap_old_at (World.alloc_heap_new w _) _
  have HSB : Hid (W.heap[w.heap.size + 1]? = some (.cells #[.slice sa sl sc] 24 (0, 0))) := by rw [hW]; exact heap_new_at _ _ _ (by simp)
  have hsz : w.heap.size + 2 ≤ W.heap.size := by rw [hW]; simp
  have hmkf : ∀ (fn : Fn) (first cap : Array Value) (w : World), (Instr.makeFunc fn first cap).run Tryd.prog w = .ok (.func fn first cap) w := fun _ _ _ _ => rfl
  have HS := Lib.hid hs
  have HM := Lib.hid hm
  have hf := slForm hs
  clear hs hm
  obtain ⟨wa, wc, rfl⟩ : ∃ a c, wv = .slice a ws.length c := ⟨_, _, hf⟩
  clear hf
  unfold gIf at *
  go_enter Tryd.func44, Tryd.ntmps44
  go_wp2_with fail
  rw [← hW]
  clear hW
  go_loopw [7, 13] (fun v i wr => ∃ t : Nat, t ≤ ws.length ∧ i = .int .i64 t ∧ Hid (WordAt wr w.heap.size (w.heap.size + 1) (lets ws t) v) ∧ Below W.heap.size W wr) (fun _ i _ => ws.length - (intOf i).toNat)
  case atStart => exact ⟨0, Nat.zero_le _, rfl, rfl, Below.refl _ _⟩
  case round =>
    obtain ⟨t, ht, rfl, HV, hE⟩ := hrel
    obtain ⟨vf, vc, hvf⟩ := HV.out.form
    subst hvf
    by_cases hlt : (t : Int) < ws.length
    · have htl : t < ws.length := by omega
      obtain ⟨b, off, cap, e, hb, hcc⟩ : ∃ b off cap, Value.slice wa ws.length wc = .slice (some ⟨b, off, none⟩) ws.length cap ∧ b < w.heap.size ∧ Cells w b off ws := by
        rcases HS.out with ⟨_, _, _, e⟩ | h
        · rw [e] at htl; simp at htl
        · exact h
      injection e with e1 _ _
      subst e1
      have hz : wr.cell? ⟨b, off + t, none⟩ = some (.int .i64 (el ws t)) := (hE.cell (p := ⟨b, off + t, none⟩) (by simp; omega)).trans ((D0.cell (p := ⟨b, off + t, none⟩) hb).trans (hcc t htl))
      have he := elOk_at HM.out htl
      obtain ⟨y, hy⟩ := Int.eq_ofNat_of_zero_le he.1
      rw [hy] at hz
      have ht0 : (0 : Int) ≤ t := by omega
      have hsE := hE.size
      obtain ⟨w3, h3⟩ : ∃ w3, w3 = (wr.alloc (.cells #[.int .i64 y] 2)).alloc (.cells #[.func (.func vf) #[] vc] 62) := ⟨_, rfl⟩
      have HV3 : Hid (WordAt w3 w.heap.size (w.heap.size + 1) (lets ws (t + 1)) (.func (.func 62) #[] #[.pointer (some ⟨w.heap.size, 0, none⟩), .pointer (some ⟨wr.heap.size + 1, 0, none⟩), .pointer (some ⟨w.heap.size + 1, 0, none⟩), .pointer (some ⟨wr.heap.size, 0, none⟩)])) := by
        show WordAt _ _ _ _ _
        simp only [lets, hy, Int.toNat_natCast]
        refine ⟨wr.heap.size + 1, wr.heap.size, .func (.func vf) #[] vc, rfl, ?_, ?_, ?_⟩
        · rw [h3]; exact heap_new_at _ _ _ (by simp)
        · rw [h3]; exact heap_old_at (World.alloc_heap_new wr _) _
        · rw [h3]; exact WordAt.below (((Below.refl _ _).alloc (Nat.le_refl _) _).alloc (by simp) _) _ _ HV.out
      have hE3 : Below W.heap.size W w3 := by rw [h3]; exact (hE.alloc hsE _).alloc (by simp; omega) _
      clear hcc he hy HV hE
      go_wp2_with fail
      rw [← h3]
      clear h3
      go_roundw
      case rel => exact ⟨t + 1, by omega, by go_num, HV3, hE3⟩
      case measure => simp [intOf]; omega
    · obtain rfl : t = ws.length := by omega
      go_wp2_with fail
      go_ret
      exact ⟨⟨_, rfl, HV.out⟩, (hE.block w.heap.size (by omega)).trans HG.out, (hE.block (w.heap.size + 1) (by omega)).trans HSB.out, D0.trans (hE.mono D0.size)⟩

end Go.Proofs.YtklgimikdnokcaaDoor
