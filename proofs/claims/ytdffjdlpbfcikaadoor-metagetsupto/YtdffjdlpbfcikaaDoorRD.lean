import Derived.Test.YtdffjdlpbfcikaaDoorRC
import Derived.Test.YtdffjdlpbfcikaaDoorKitTwo
namespace Go.Proofs.YtdffjdlpbfcikaaDoor.Kit
open Go.RowKit Go.Shelf Go.Deep
set_option linter.unusedVariables false
attribute [local go_sem] run_store_func

/-! ### several things of one kind -/
theorem own_formK {W : World} {t s n : Nat} {v : Value} {xs : List Value} (h : W.ownsRow 0 t s v n xs) : ∃ vo vc, v = .slice vo n vc := by
  rcases h.2 with ⟨rfl, h0⟩ | ⟨g, cap, cur, rfl, _⟩
  · exact ⟨none, 0, by rw [h0]⟩
  · exact ⟨_, _, rfl⟩
/-- a list of one's own, new since W -/
structure LAt {α : Type} (W w' : World) (t s : Nat) (c : α → List Value) (l : List α) (vo : Option Addr) (vc : Nat) : Prop where
  own : w'.ownsRow 0 t s (.slice vo l.length vc) l.length (l.flatMap c)
  new : ∀ g, (Value.slice vo l.length vc).ownBlock = some g → W.heap.size ≤ g
theorem LAt.nil {α : Type} (W w' : World) (t s : Nat) (c : α → List Value) : LAt W w' t s c [] none 0 := ⟨World.ownsRow_nil _ _ _ _, fun g e => by simp [Value.ownBlock] at e⟩
theorem LAt.kp {α : Type} {W U U' : World} {t s : Nat} {c : α → List Value} {l : List α} {vo : Option Addr} {vc p : Nat} (h : LAt W U t s c l vo vc) (k : Keeps U U' (fun z => z = p)) (hp : p < W.heap.size) : LAt W U' t s c l vo vc :=
  ⟨row_kp h.own fun g e => k.block g (own_lt h.own g e) (by have := h.new g e; omega), h.new⟩
theorem sevK_err {α : Type} {r : Rd α} {n k : Nat} {acc : List α} {s : St} {er : Int × Nat} (h : k < n) (hr : r s = .error er) : sevK r (n - k) acc s = .error er := by
  obtain ⟨m, hm⟩ : ∃ m, n - k = m + 1 := ⟨n - k - 1, by omega⟩
  rw [hm, sevK]; exact Rd.bind_err hr
theorem sevK_ok {α : Type} {r : Rd α} {n k : Nat} {acc : List α} {s s' : St} {x : α} (h : k < n) (hr : r s = .ok (x, s')) : sevK r (n - k) acc s = sevK r (n - (k + 1)) (acc ++ [x]) s' := by
  obtain ⟨m, hm⟩ : ∃ m, n - k = m + 1 := ⟨n - k - 1, by omega⟩
  rw [hm, sevK, show n - (k + 1) = m by omega]; exact Rd.bind_ok hr
theorem sevK_end {α : Type} {r : Rd α} {n : Nat} {acc : List α} {s : St} : sevK r (n - n) acc s = .ok (acc, s) := by rw [Nat.sub_self]; rfl
theorem info62 : (Tryd.prog.info? 62).map (fun i => (i.zero, i.size, i.bytes)) = some (some (.agg #[.int .i64 0, .int .i64 0]), 2, 16) := by kernel_rfl
theorem src62 (w : World) (y0 y1 : Int) : Src Tryd.prog 2 27 (.slice (some ⟨w.heap.size, 0, none⟩) 1 1) 1 [.int .i64 y0, .int .i64 y1] (w.alloc (.cells #[.int .i64 y0, .int .i64 y1] 62)) := by
  refine Src.ofSlice (w := w.alloc (.cells #[.int .i64 y0, .int .i64 y1] 62)) Tryd.underlying27 ⟨w.heap.size, 0, none⟩ 1 1 [.int .i64 y0, .int .i64 y1] (by simp) (fun j v hj => ?_) (fun v hv => by simp at hv; rcases hv with rfl | rfl <;> rfl)
  have hb' := heap_alloc_new w (.cells #[.int .i64 y0, .int .i64 y1] 62)
  have e : (⟨w.heap.size, 0, none⟩ : Addr).add j = ⟨w.heap.size, j, none⟩ := by cases j <;> simp [Addr.add]
  rw [e]
  simp only [World.cell?, hb']
  simpa using hj
set_option maxRecDepth 100000 in
set_option maxHeartbeats 4000000 in
theorem nodes_any (p : Nat) (bo : Option Addr) (B : List UInt8) (bc n : Nat) (hn : n ≤ 65535) : RdC p bo B bc 46 #[.int .i64 (n : Int), .func (.func 47) #[.pointer (some ⟨p, 0, none⟩)] #[]] (sevR n (nodeR B)) (fun W w' l v => ∃ vo vc, v = .slice vo l.length vc ∧ LAt W w' 62 2 (fun x : Int × Int => [Value.int .i64 x.1, .int .i64 x.2]) l vo vc) := by
  intro W a0 g0 hR
  obtain ⟨R, hRes⟩ : ∃ R, R = sevR n (nodeR B) (a0, g0) := ⟨_, rfl⟩
  rw [← hRes]
  have hp := hR.lt
  have HP := hidM hp
  have HN := hidM (node_any p bo B bc)
  have HR0 := hidM hR
  have HS0 : Hid (sevK (nodeR B) (n - 0) [] (a0, g0) = R) := by rw [hRes]; rfl
  clear hR hRes hp
  go_enter Tryd.func46, Tryd.ntmps46
  go_wp2_with fail
  go_loopw [5, 7] (fun l i wr => ∃ (k : Nat) (acc : List (Int × Int)) (a g : Nat) (vo : Option Addr) (vc : Nat), k ≤ n ∧ i = .int .i64 (k : Int) ∧ l = .slice vo k vc ∧ Hid (acc.length = k) ∧ Hid (LAt W wr 62 2 (fun x : Int × Int => [Value.int .i64 x.1, .int .i64 x.2]) acc vo vc) ∧ Hid (RAt wr p bo B bc a g) ∧ Hid (Keeps W wr (fun z => z = p)) ∧ Hid (sevK (nodeR B) (n - k) acc (a, g) = R)) (fun _ i _ => n - (intOf i).toNat)
  case atStart => exact ⟨0, [], a0, g0, none, 0, Nat.zero_le _, rfl, rfl, rfl, LAt.nil _ _ _ _ _, HR0.out, Keeps.refl _ _, HS0.out⟩
  case round =>
    obtain ⟨k, acc, a, g, vo, vc, hk, rfl, rfl, HL, HA, HR, HG, HS⟩ := hrel
    by_cases hlt : k < n
    · have hltI : (k : Int) < (n : Int) := by omega
      go_wp2_with (go_at_call 47; refine Hid.out ?_)
      unfold Hid
      have hq := HN.out _ _ _ HR.out
      cases hr : nodeR B (a, g) with
      | error er =>
        rw [hr] at hq
        refine Calls.mono hq ?_
        rintro e' U ⟨hk', rfl⟩
        have HGe := hidM (HG.out.trans hk' (fun _ _ h => h))
        have Hr := hidM hr
        clear hk' hq hr
        go_wp2_with fail
        exact ⟨rfl, RdQ.err HGe.out (HS.out.symm.trans (sevK_err hlt Hr.out))⟩
      | ok q =>
        obtain ⟨x, a1, g1⟩ := q
        rw [hr] at hq
        refine Calls.mono hq ?_
        rintro e' U ⟨hk', v, rfl, rfl, hR⟩
        have HA1 := hidM (HA.out.kp hk' HP.out)
        have HG1 := hidM (HG.out.trans hk' (fun _ _ h => h))
        have HR1 := hidM hR
        have HS1 : Hid (sevK (nodeR B) (n - (k + 1)) (acc ++ [x]) (a1, g1) = R) := (sevK_ok hlt hr).symm.trans HS.out
        obtain ⟨y0, hy0⟩ : ∃ y, y = x.1 := ⟨_, rfl⟩
        obtain ⟨y1, hy1⟩ : ∃ y, y = x.2 := ⟨_, rfl⟩
        rw [← hy0, ← hy1]
        have HC : Hid ((fun x : Int × Int => [Value.int .i64 x.1, .int .i64 x.2]) x = [.int .i64 y0, .int .i64 y1]) := by show _ = _; rw [hy0, hy1]
        have hsrc : Src Tryd.prog 2 27 (.slice (some ⟨U.heap.size, 0, none⟩) 1 1) 1 [.int .i64 y0, .int .i64 y1] (U.alloc (.cells #[.int .i64 y0, .int .i64 y1] 62)) := src62 U _ _ 
        have hown : (U.alloc (.cells #[.int .i64 y0, .int .i64 y1] 62)).ownsRow 0 62 2 (.slice vo k vc) k (acc.flatMap (fun x : Int × Int => [Value.int .i64 x.1, .int .i64 x.2])) := by have := HA1.out.own.alloc (.cells #[.int .i64 y0, .int .i64 y1] 62); rwa [HL.out] at this
        have HO := hidM hown
        have HSr := hidM hsrc
        clear hk' hq hr hR hown hsrc HA HR HG HS hy0 hy1
        go_wp2_with (with_reducible show wpList Tryd.prog _ _ (Oper.mk (some 13) _ _ _ _ _ :: _) _ _; refine Hid.out ?_)
        unfold Hid
        refine wpList_append_anyN (P := Tryd.prog) _ rfl (.tmp 9) (.tmp 12) 27 27 rfl 62 (.agg #[.int .i64 0, .int .i64 0]) 2 16 Tryd.underlying27 info62 rfl _ _ _ rfl HO.out _ _ _ rfl HSr.out (by omega) (by omega) ?_
        refine Hid.out ?_
        unfold Hid
        intro v' w1 hown hgrow hblk
        obtain ⟨vo', vc', rfl⟩ := own_formK hown
        have gA : Gr U (U.alloc (.cells #[.int .i64 y0, .int .i64 y1] 62)) := gr_alloc U _
        have kA : Keeps U w1 (fun z => (Value.slice vo k vc).ownBlock = some z) := (gA.mono fun _ _ h => h.elim).trans (Keeps.ofGrown hgrow) (fun _ _ h => h)
        have hnew : ∀ g, (Value.slice vo k vc).ownBlock = some g → W.heap.size ≤ g := fun g e => HA1.out.new g (by rw [HL.out]; exact e)
        have kW : Keeps W w1 (fun z => z = p) := HG1.out.trans kA (fun j hj h => by have := hnew j h; omega)
        have HR2 := hidM (RAt.over HR0.out HR1.out kW (kA.block p (lt_of_heap HR1.out.box) (fun h => by have := hnew p h; have := HP.out; omega)))
        have HG2 := hidM kW
        have HL2 : Hid ((acc ++ [x]).length = k + 1) := by show _ = _; rw [List.length_append, HL.out]; rfl
        have HA2 : Hid (LAt W w1 62 2 (fun x : Int × Int => [Value.int .i64 x.1, .int .i64 x.2]) (acc ++ [x]) vo' vc') := ⟨by rw [HL2.out, List.flatMap_append]; simpa [HC.out] using hown, fun g e => by rw [HL2.out] at e; exact hblk.elim (fun q => hnew g (q ▸ e)) (fun q => by have := q g e; have := HG1.out.size; have := gA.size; omega)⟩
        clear hown hgrow hblk gA kA hnew kW HO HSr HA1 HC
        go_wp2_with fail
        go_roundw
        case rel => exact ⟨k + 1, acc ++ [x], a1, g1, vo', vc', by omega, by simp, rfl, HL2.out, HA2.out, HR2.out, HG2.out, HS1.out⟩
        case measure => simp [intOf]; omega
    · have hkn : k = n := by omega
      subst hkn
      have hltI : ¬ (k : Int) < (k : Int) := by omega
      go_wp2_with fail
      go_ret
      have hE : R = .ok (acc, (a, g)) := HS.out.symm.trans sevK_end
      have hv : Value.slice vo k vc = .slice vo acc.length vc := by rw [HL.out]
      exact RdQ.ok HG.out hE ⟨vo, vc, hv, HA.out⟩ HR.out
theorem info64 : (Tryd.prog.info? 64).map (fun i => (i.zero, i.size, i.bytes)) = some (some (.agg #[.int .i64 0, .int .i64 0, .int .i64 0]), 3, 24) := by kernel_rfl
theorem src64 (w : World) (y0 y1 y2 : Int) : Src Tryd.prog 3 28 (.slice (some ⟨w.heap.size, 0, none⟩) 1 1) 1 [.int .i64 y0, .int .i64 y1, .int .i64 y2] (w.alloc (.cells #[.int .i64 y0, .int .i64 y1, .int .i64 y2] 64)) := by
  refine Src.ofSlice (w := w.alloc (.cells #[.int .i64 y0, .int .i64 y1, .int .i64 y2] 64)) Tryd.underlying28 ⟨w.heap.size, 0, none⟩ 1 1 [.int .i64 y0, .int .i64 y1, .int .i64 y2] (by simp) (fun j v hj => ?_) (fun v hv => by simp at hv; rcases hv with rfl | rfl | rfl <;> rfl)
  have hb' := heap_alloc_new w (.cells #[.int .i64 y0, .int .i64 y1, .int .i64 y2] 64)
  have e : (⟨w.heap.size, 0, none⟩ : Addr).add j = ⟨w.heap.size, j, none⟩ := by cases j <;> simp [Addr.add]
  rw [e]
  simp only [World.cell?, hb']
  simpa using hj
set_option maxRecDepth 100000 in
set_option maxHeartbeats 4000000 in
theorem slots_any (p : Nat) (bo : Option Addr) (B : List UInt8) (bc n : Nat) (hn : n ≤ 65535) : RdC p bo B bc 48 #[.int .i64 (n : Int), .func (.func 49) #[.pointer (some ⟨p, 0, none⟩)] #[]] (sevR n (slotR B)) (fun W w' l v => ∃ vo vc, v = .slice vo l.length vc ∧ LAt W w' 64 3 (fun x : Int × Int × Int => [Value.int .i64 x.1, .int .i64 x.2.1, .int .i64 x.2.2]) l vo vc) := by
  intro W a0 g0 hR
  obtain ⟨R, hRes⟩ : ∃ R, R = sevR n (slotR B) (a0, g0) := ⟨_, rfl⟩
  rw [← hRes]
  have hp := hR.lt
  have HP := hidM hp
  have HN := hidM (slot_any p bo B bc)
  have HR0 := hidM hR
  have HS0 : Hid (sevK (slotR B) (n - 0) [] (a0, g0) = R) := by rw [hRes]; rfl
  clear hR hRes hp
  go_enter Tryd.func48, Tryd.ntmps48
  go_wp2_with fail
  go_loopw [5, 7] (fun l i wr => ∃ (k : Nat) (acc : List (Int × Int × Int)) (a g : Nat) (vo : Option Addr) (vc : Nat), k ≤ n ∧ i = .int .i64 (k : Int) ∧ l = .slice vo k vc ∧ Hid (acc.length = k) ∧ Hid (LAt W wr 64 3 (fun x : Int × Int × Int => [Value.int .i64 x.1, .int .i64 x.2.1, .int .i64 x.2.2]) acc vo vc) ∧ Hid (RAt wr p bo B bc a g) ∧ Hid (Keeps W wr (fun z => z = p)) ∧ Hid (sevK (slotR B) (n - k) acc (a, g) = R)) (fun _ i _ => n - (intOf i).toNat)
  case atStart => exact ⟨0, [], a0, g0, none, 0, Nat.zero_le _, rfl, rfl, rfl, LAt.nil _ _ _ _ _, HR0.out, Keeps.refl _ _, HS0.out⟩
  case round =>
    obtain ⟨k, acc, a, g, vo, vc, hk, rfl, rfl, HL, HA, HR, HG, HS⟩ := hrel
    by_cases hlt : k < n
    · have hltI : (k : Int) < (n : Int) := by omega
      go_wp2_with (go_at_call 49; refine Hid.out ?_)
      unfold Hid
      have hq := HN.out _ _ _ HR.out
      cases hr : slotR B (a, g) with
      | error er =>
        rw [hr] at hq
        refine Calls.mono hq ?_
        rintro e' U ⟨hk', rfl⟩
        have HGe := hidM (HG.out.trans hk' (fun _ _ h => h))
        have Hr := hidM hr
        clear hk' hq hr
        go_wp2_with fail
        exact ⟨rfl, RdQ.err HGe.out (HS.out.symm.trans (sevK_err hlt Hr.out))⟩
      | ok q =>
        obtain ⟨x, a1, g1⟩ := q
        rw [hr] at hq
        refine Calls.mono hq ?_
        rintro e' U ⟨hk', v, rfl, rfl, hR⟩
        have HA1 := hidM (HA.out.kp hk' HP.out)
        have HG1 := hidM (HG.out.trans hk' (fun _ _ h => h))
        have HR1 := hidM hR
        have HS1 : Hid (sevK (slotR B) (n - (k + 1)) (acc ++ [x]) (a1, g1) = R) := (sevK_ok hlt hr).symm.trans HS.out
        obtain ⟨y0, hy0⟩ : ∃ y, y = x.1 := ⟨_, rfl⟩
        obtain ⟨y1, hy1⟩ : ∃ y, y = x.2.1 := ⟨_, rfl⟩
        obtain ⟨y2, hy2⟩ : ∃ y, y = x.2.2 := ⟨_, rfl⟩
        rw [← hy0, ← hy1, ← hy2]
        have HC : Hid ((fun x : Int × Int × Int => [Value.int .i64 x.1, .int .i64 x.2.1, .int .i64 x.2.2]) x = [.int .i64 y0, .int .i64 y1, .int .i64 y2]) := by show _ = _; rw [hy0, hy1, hy2]
        have hsrc : Src Tryd.prog 3 28 (.slice (some ⟨U.heap.size, 0, none⟩) 1 1) 1 [.int .i64 y0, .int .i64 y1, .int .i64 y2] (U.alloc (.cells #[.int .i64 y0, .int .i64 y1, .int .i64 y2] 64)) := src64 U _ _ _ 
        have hown : (U.alloc (.cells #[.int .i64 y0, .int .i64 y1, .int .i64 y2] 64)).ownsRow 0 64 3 (.slice vo k vc) k (acc.flatMap (fun x : Int × Int × Int => [Value.int .i64 x.1, .int .i64 x.2.1, .int .i64 x.2.2])) := by have := HA1.out.own.alloc (.cells #[.int .i64 y0, .int .i64 y1, .int .i64 y2] 64); rwa [HL.out] at this
        have HO := hidM hown
        have HSr := hidM hsrc
        clear hk' hq hr hR hown hsrc HA HR HG HS hy0 hy1 hy2
        go_wp2_with (with_reducible show wpList Tryd.prog _ _ (Oper.mk (some 13) _ _ _ _ _ :: _) _ _; refine Hid.out ?_)
        unfold Hid
        refine wpList_append_anyN (P := Tryd.prog) _ rfl (.tmp 9) (.tmp 12) 28 28 rfl 64 (.agg #[.int .i64 0, .int .i64 0, .int .i64 0]) 3 24 Tryd.underlying28 info64 rfl _ _ _ rfl HO.out _ _ _ rfl HSr.out (by omega) (by omega) ?_
        refine Hid.out ?_
        unfold Hid
        intro v' w1 hown hgrow hblk
        obtain ⟨vo', vc', rfl⟩ := own_formK hown
        have gA : Gr U (U.alloc (.cells #[.int .i64 y0, .int .i64 y1, .int .i64 y2] 64)) := gr_alloc U _
        have kA : Keeps U w1 (fun z => (Value.slice vo k vc).ownBlock = some z) := (gA.mono fun _ _ h => h.elim).trans (Keeps.ofGrown hgrow) (fun _ _ h => h)
        have hnew : ∀ g, (Value.slice vo k vc).ownBlock = some g → W.heap.size ≤ g := fun g e => HA1.out.new g (by rw [HL.out]; exact e)
        have kW : Keeps W w1 (fun z => z = p) := HG1.out.trans kA (fun j hj h => by have := hnew j h; omega)
        have HR2 := hidM (RAt.over HR0.out HR1.out kW (kA.block p (lt_of_heap HR1.out.box) (fun h => by have := hnew p h; have := HP.out; omega)))
        have HG2 := hidM kW
        have HL2 : Hid ((acc ++ [x]).length = k + 1) := by show _ = _; rw [List.length_append, HL.out]; rfl
        have HA2 : Hid (LAt W w1 64 3 (fun x : Int × Int × Int => [Value.int .i64 x.1, .int .i64 x.2.1, .int .i64 x.2.2]) (acc ++ [x]) vo' vc') := ⟨by rw [HL2.out, List.flatMap_append]; simpa [HC.out] using hown, fun g e => by rw [HL2.out] at e; exact hblk.elim (fun q => hnew g (q ▸ e)) (fun q => by have := q g e; have := HG1.out.size; have := gA.size; omega)⟩
        clear hown hgrow hblk gA kA hnew kW HO HSr HA1 HC
        go_wp2_with fail
        go_roundw
        case rel => exact ⟨k + 1, acc ++ [x], a1, g1, vo', vc', by omega, by simp, rfl, HL2.out, HA2.out, HR2.out, HG2.out, HS1.out⟩
        case measure => simp [intOf]; omega
    · have hkn : k = n := by omega
      subst hkn
      have hltI : ¬ (k : Int) < (k : Int) := by omega
      go_wp2_with fail
      go_ret
      have hE : R = .ok (acc, (a, g)) := HS.out.symm.trans sevK_end
      have hv : Value.slice vo k vc = .slice vo acc.length vc := by rw [HL.out]
      exact RdQ.ok HG.out hE ⟨vo, vc, hv, HA.out⟩ HR.out
theorem info60 : (Tryd.prog.info? 60).map (fun i => (i.zero, i.size, i.bytes)) = some (some (.agg #[.string ⟨#[]⟩, .string ⟨#[]⟩]), 2, 32) := by kernel_rfl
theorem src60 (w : World) (y0 y1 : ByteArray) : Src Tryd.prog 2 24 (.slice (some ⟨w.heap.size, 0, none⟩) 1 1) 1 [.string y0, .string y1] (w.alloc (.cells #[.string y0, .string y1] 60)) := by
  refine Src.ofSlice (w := w.alloc (.cells #[.string y0, .string y1] 60)) Tryd.underlying24 ⟨w.heap.size, 0, none⟩ 1 1 [.string y0, .string y1] (by simp) (fun j v hj => ?_) (fun v hv => by simp at hv; rcases hv with rfl | rfl <;> rfl)
  have hb' := heap_alloc_new w (.cells #[.string y0, .string y1] 60)
  have e : (⟨w.heap.size, 0, none⟩ : Addr).add j = ⟨w.heap.size, j, none⟩ := by cases j <;> simp [Addr.add]
  rw [e]
  simp only [World.cell?, hb']
  simpa using hj
set_option maxRecDepth 100000 in
set_option maxHeartbeats 4000000 in
theorem notes_any (p : Nat) (bo : Option Addr) (B : List UInt8) (bc n : Nat) (hn : n ≤ 65535) : RdC p bo B bc 60 #[.int .i64 (n : Int), .func (.func 61) #[.pointer (some ⟨p, 0, none⟩)] #[]] (sevR n (noteR B)) (fun W w' l v => ∃ vo vc, v = .slice vo l.length vc ∧ LAt W w' 60 2 (fun x : ByteArray × ByteArray => [Value.string x.1, .string x.2]) l vo vc) := by
  intro W a0 g0 hR
  obtain ⟨R, hRes⟩ : ∃ R, R = sevR n (noteR B) (a0, g0) := ⟨_, rfl⟩
  rw [← hRes]
  have hp := hR.lt
  have HP := hidM hp
  have HN := hidM (note_any p bo B bc)
  have HR0 := hidM hR
  have HS0 : Hid (sevK (noteR B) (n - 0) [] (a0, g0) = R) := by rw [hRes]; rfl
  clear hR hRes hp
  go_enter Tryd.func60, Tryd.ntmps60
  go_wp2_with fail
  go_loopw [5, 7] (fun l i wr => ∃ (k : Nat) (acc : List (ByteArray × ByteArray)) (a g : Nat) (vo : Option Addr) (vc : Nat), k ≤ n ∧ i = .int .i64 (k : Int) ∧ l = .slice vo k vc ∧ Hid (acc.length = k) ∧ Hid (LAt W wr 60 2 (fun x : ByteArray × ByteArray => [Value.string x.1, .string x.2]) acc vo vc) ∧ Hid (RAt wr p bo B bc a g) ∧ Hid (Keeps W wr (fun z => z = p)) ∧ Hid (sevK (noteR B) (n - k) acc (a, g) = R)) (fun _ i _ => n - (intOf i).toNat)
  case atStart => exact ⟨0, [], a0, g0, none, 0, Nat.zero_le _, rfl, rfl, rfl, LAt.nil _ _ _ _ _, HR0.out, Keeps.refl _ _, HS0.out⟩
  case round =>
    obtain ⟨k, acc, a, g, vo, vc, hk, rfl, rfl, HL, HA, HR, HG, HS⟩ := hrel
    by_cases hlt : k < n
    · have hltI : (k : Int) < (n : Int) := by omega
      go_wp2_with (go_at_call 61; refine Hid.out ?_)
      unfold Hid
      have hq := HN.out _ _ _ HR.out
      cases hr : noteR B (a, g) with
      | error er =>
        rw [hr] at hq
        refine Calls.mono hq ?_
        rintro e' U ⟨hk', rfl⟩
        have HGe := hidM (HG.out.trans hk' (fun _ _ h => h))
        have Hr := hidM hr
        clear hk' hq hr
        go_wp2_with fail
        exact ⟨rfl, RdQ.err HGe.out (HS.out.symm.trans (sevK_err hlt Hr.out))⟩
      | ok q =>
        obtain ⟨x, a1, g1⟩ := q
        rw [hr] at hq
        refine Calls.mono hq ?_
        rintro e' U ⟨hk', v, rfl, rfl, hR⟩
        have HA1 := hidM (HA.out.kp hk' HP.out)
        have HG1 := hidM (HG.out.trans hk' (fun _ _ h => h))
        have HR1 := hidM hR
        have HS1 : Hid (sevK (noteR B) (n - (k + 1)) (acc ++ [x]) (a1, g1) = R) := (sevK_ok hlt hr).symm.trans HS.out
        obtain ⟨y0, hy0⟩ : ∃ y, y = x.1 := ⟨_, rfl⟩
        obtain ⟨y1, hy1⟩ : ∃ y, y = x.2 := ⟨_, rfl⟩
        rw [← hy0, ← hy1]
        have HC : Hid ((fun x : ByteArray × ByteArray => [Value.string x.1, .string x.2]) x = [.string y0, .string y1]) := by show _ = _; rw [hy0, hy1]
        have hsrc : Src Tryd.prog 2 24 (.slice (some ⟨U.heap.size, 0, none⟩) 1 1) 1 [.string y0, .string y1] (U.alloc (.cells #[.string y0, .string y1] 60)) := src60 U _ _ 
        have hown : (U.alloc (.cells #[.string y0, .string y1] 60)).ownsRow 0 60 2 (.slice vo k vc) k (acc.flatMap (fun x : ByteArray × ByteArray => [Value.string x.1, .string x.2])) := by have := HA1.out.own.alloc (.cells #[.string y0, .string y1] 60); rwa [HL.out] at this
        have HO := hidM hown
        have HSr := hidM hsrc
        clear hk' hq hr hR hown hsrc HA HR HG HS hy0 hy1
        go_wp2_with (with_reducible show wpList Tryd.prog _ _ (Oper.mk (some 13) _ _ _ _ _ :: _) _ _; refine Hid.out ?_)
        unfold Hid
        refine wpList_append_anyN (P := Tryd.prog) _ rfl (.tmp 9) (.tmp 12) 24 24 rfl 60 (.agg #[.string ⟨#[]⟩, .string ⟨#[]⟩]) 2 32 Tryd.underlying24 info60 rfl _ _ _ rfl HO.out _ _ _ rfl HSr.out (by omega) (by omega) ?_
        refine Hid.out ?_
        unfold Hid
        intro v' w1 hown hgrow hblk
        obtain ⟨vo', vc', rfl⟩ := own_formK hown
        have gA : Gr U (U.alloc (.cells #[.string y0, .string y1] 60)) := gr_alloc U _
        have kA : Keeps U w1 (fun z => (Value.slice vo k vc).ownBlock = some z) := (gA.mono fun _ _ h => h.elim).trans (Keeps.ofGrown hgrow) (fun _ _ h => h)
        have hnew : ∀ g, (Value.slice vo k vc).ownBlock = some g → W.heap.size ≤ g := fun g e => HA1.out.new g (by rw [HL.out]; exact e)
        have kW : Keeps W w1 (fun z => z = p) := HG1.out.trans kA (fun j hj h => by have := hnew j h; omega)
        have HR2 := hidM (RAt.over HR0.out HR1.out kW (kA.block p (lt_of_heap HR1.out.box) (fun h => by have := hnew p h; have := HP.out; omega)))
        have HG2 := hidM kW
        have HL2 : Hid ((acc ++ [x]).length = k + 1) := by show _ = _; rw [List.length_append, HL.out]; rfl
        have HA2 : Hid (LAt W w1 60 2 (fun x : ByteArray × ByteArray => [Value.string x.1, .string x.2]) (acc ++ [x]) vo' vc') := ⟨by rw [HL2.out, List.flatMap_append]; simpa [HC.out] using hown, fun g e => by rw [HL2.out] at e; exact hblk.elim (fun q => hnew g (q ▸ e)) (fun q => by have := q g e; have := HG1.out.size; have := gA.size; omega)⟩
        clear hown hgrow hblk gA kA hnew kW HO HSr HA1 HC
        go_wp2_with fail
        go_roundw
        case rel => exact ⟨k + 1, acc ++ [x], a1, g1, vo', vc', by omega, by simp, rfl, HL2.out, HA2.out, HR2.out, HG2.out, HS1.out⟩
        case measure => simp [intOf]; omega
    · have hkn : k = n := by omega
      subst hkn
      have hltI : ¬ (k : Int) < (k : Int) := by omega
      go_wp2_with fail
      go_ret
      have hE : R = .ok (acc, (a, g)) := HS.out.symm.trans sevK_end
      have hv : Value.slice vo k vc = .slice vo acc.length vc := by rw [HL.out]
      exact RdQ.ok HG.out hE ⟨vo, vc, hv, HA.out⟩ HR.out
end Go.Proofs.YtdffjdlpbfcikaaDoor.Kit
