import Derived.Test.YtfoifmacobldbaaGreatDoorPI
import Derived.Test.YtfoifmacobldbaaGreatDoorFG
import Derived.Test.YtfoifmacobldbaaGreatDoorEA
import Derived.Test.YtfoifmacobldbaaGreatDoorRX
import Derived.Test.YtfoifmacobldbaaGreatDoorVD
import Derived.Test.YtfoifmacobldbaaGreatDoorPG
import Derived.Deep.AppendSrc
set_option maxRecDepth 100000
set_option maxHeartbeats 4000000
namespace Go.Proofs.YtfoifmacobldbaaGreatDoor.Kit
open Go.RowKit Go.Shelf Go.Deep
set_option linter.unusedVariables false
set_option linter.unusedSimpArgs false
/-! ### isNull 62 -/
theorem index_str (s : ByteArray) (k : Nat) (h : k < s.size) (w : World) : (Instr.index 9 (.string s) (.int .i64 (k : Int))).run Tryz.prog w = .ok (.int .u8 ((s[k]'h).toNat : Int)) w := by
  go_simp
theorem isNull62 (p : Nat) (s : ByteArray) (W : World) (a : Nat) (er : Int) (hR : Rd W p s a er) : Calls Tryz.prog 62 #[.pointer (some ⟨p, 0, none⟩)] W fun e W' => e = .returned (.bool (QB.isNullB (s.data.toList.drop a))) ∧ Gr W W' := by
  have HW := hidM (row95_96 p s W a er hR)
  have HR := hidM hR
  have hal : a ≤ 65536 := Nat.le_trans hR.pos hR.len
  have hsl := hR.len
  have hap := hR.pos
  clear hR
  obtain ⟨T, hT⟩ : ∃ T, T = (s.data.toList.drop a).takeWhile QB.rowB := ⟨_, rfl⟩
  obtain ⟨wd, hwd⟩ : ∃ wd, wd = s.extract a (a + T.length) := ⟨_, rfl⟩
  have hle : a + T.length ≤ s.size := by
    have h := (List.takeWhile_prefix QB.rowB (l := s.data.toList.drop a)).length_le
    rw [← hT] at h
    simp at h
    omega
  have hws : wd.size = T.length := by
    rw [hwd]; simp [ByteArray.size_extract]; omega
  have hwl : wd.data.toList = T := by
    have h := List.prefix_iff_eq_take.1 (List.takeWhile_prefix QB.rowB (l := s.data.toList.drop a))
    rw [← hT] at h
    rw [hwd]
    simp [List.extract]
    exact h.symm
  rw [← hT, ← hwd] at HW
  have HD : Hid (s.data.toList.drop (a + T.length) = (s.data.toList.drop a).dropWhile QB.rowB) := by
    have h := List.takeWhile_append_dropWhile (p := QB.rowB) (l := s.data.toList.drop a)
    rw [← hT] at h
    show _ = _
    rw [← List.drop_drop]
    conv => lhs; rw [← h]
    simp
  have HN : Hid (QB.isNullB (s.data.toList.drop a) = (wd.toList == [110, 117, 108, 108] && (match s.data.toList.drop (a + T.length) with | [] => true | c :: _ => c != 40 && !QB.aloneB c))) := by
    show _ = _
    unfold QB.isNullB
    rw [HD.out, ← hT, ByteArray.toList_eq, hwl]
    rfl
  rw [HN.out]
  generalize hn : T.length = n at *
  clear HN HD hwd hwl hT
  have hwI : (wd.size : Int) = (n : Int) := by omega
  by_cases hb : (wd.toList == [110, 117, 108, 108]) = true
  · rw [hb, Bool.true_and]
    by_cases he : a + n = s.size
    · rw [List.drop_of_length_le (by simp; omega)]
      have heI : ((a : Int) + (n : Int)) = (s.size : Int) := by omega
      go_enter Tryz.func62, Tryz.ntmps62
      go_wp2_with (go_at_call 95; refine HW.out.mono ?_; rintro e u ⟨rfl, hg⟩; have e0 := (HR.out.gr hg).cells.1; have e1 := (HR.out.gr hg).cells.2.1; have HG := hidM hg; clear hg)
      go_ret
      exact ⟨rfl, HG.out⟩
    · have hlt : a + n < s.size := by omega
      rw [List.drop_eq_getElem_cons (by simpa using hlt)]
      have hneI : ¬ ((a : Int) + (n : Int)) = (s.size : Int) := by omega
      have hix : ∀ w, (Instr.index 9 (.string s) (.int .i64 ((a : Int) + (n : Int)))).run Tryz.prog w = .ok (.int .u8 ((s[a + n]'hlt).toNat : Int)) w := by
        intro w
        have e : ((a : Int) + (n : Int)) = ((a + n : Nat) : Int) := by omega
        rw [e]
        exact index_str s (a + n) hlt w
      have hc : s.data.toList[a + n]'(by simpa using hlt) = s[a + n]'hlt := by simp; rfl
      rw [hc]
      have ha := alone97 (s[a + n]'hlt)
      have hne : ((s[a + n]'hlt) != 40) = !decide ((s[a + n]'hlt).toNat = 40) := u8_ne' _ _
      show Calls _ _ _ _ (fun e W' => e = .returned (.bool ((s[a + n]'hlt) != 40 && !QB.aloneB (s[a + n]'hlt))) ∧ _)
      rw [hne]
      clear hc hne
      generalize QB.aloneB (s[a + n]'hlt) = b at ha ⊢
      generalize (s[a + n]'hlt).toNat = c at hix ha ⊢
      by_cases h40 : c = 40
      · subst h40
        rw [show ((40 : Nat) : Int) = 40 from rfl] at hix ha
        go_enter Tryz.func62, Tryz.ntmps62
        go_wp2_with (go_at_call 95; refine HW.out.mono ?_; rintro e u ⟨rfl, hg⟩; have e0 := (HR.out.gr hg).cells.1; have e1 := (HR.out.gr hg).cells.2.1; have HG := hidM hg; clear hg)
        go_ret
        refine ⟨congrArg (fun b => Ending.returned (.bool b)) ?_, HG.out⟩
        rw [Bool.eq_iff_iff]
        simp
        try omega
      · have h40I : ¬ (c : Int) = 40 := by omega
        have h40d : decide (c = 40) = false := by simpa using h40
        rw [h40d]
        clear h40 h40d
        cases b
        · go_enter Tryz.func62, Tryz.ntmps62
          go_wp2_with (first | (go_at_call 95; refine HW.out.mono ?_; rintro e u ⟨rfl, hg⟩; have e0 := (HR.out.gr hg).cells.1; have e1 := (HR.out.gr hg).cells.2.1; have HG := hidM hg; clear hg) | (go_at_call 97; refine (ha _).mono ?_; rintro e w' ⟨rfl, hw⟩; subst hw))
          go_ret
          refine ⟨congrArg (fun b => Ending.returned (.bool b)) ?_, HG.out⟩
          rw [Bool.eq_iff_iff]
          simp
          try omega
        · go_enter Tryz.func62, Tryz.ntmps62
          go_wp2_with (first | (go_at_call 95; refine HW.out.mono ?_; rintro e u ⟨rfl, hg⟩; have e0 := (HR.out.gr hg).cells.1; have e1 := (HR.out.gr hg).cells.2.1; have HG := hidM hg; clear hg) | (go_at_call 97; refine (ha _).mono ?_; rintro e w' ⟨rfl, hw⟩; subst hw))
          go_ret
          refine ⟨congrArg (fun b => Ending.returned (.bool b)) ?_, HG.out⟩
          rw [Bool.eq_iff_iff]
          simp
          try omega
  · rw [Bool.not_eq_true] at hb
    rw [hb, Bool.false_and]
    go_enter Tryz.func62, Tryz.ntmps62
    go_wp2_with (go_at_call 95; refine HW.out.mono ?_; rintro e u ⟨rfl, hg⟩; have e0 := (HR.out.gr hg).cells.1; have e1 := (HR.out.gr hg).cells.2.1; have HG := hidM hg; clear hg)
    go_ret
    exact ⟨rfl, HG.out⟩
end Go.Proofs.YtfoifmacobldbaaGreatDoor.Kit
namespace Go.Proofs.YtfoifmacobldbaaGreatDoor.Kit
open Go.RowKit Go.Shelf Go.Deep
set_option linter.unusedVariables false
attribute [local go_sem] run_store_func
/-! ### lists of numbers, read -/
def IntsAt (W : World) (ao : Option Addr) (l : List Nat) : Prop := l ≠ [] → ∃ b o, ao = some ⟨b, o, none⟩ ∧ ∀ j (h : j < l.length), W.cell? ⟨b, o + j, none⟩ = some (.int .i64 (l[j] : Int))
end Go.Proofs.YtfoifmacobldbaaGreatDoor.Kit
namespace Go.Proofs.YtfoifmacobldbaaGreatDoor.Kit
/-! ### the fields in their order, no deeper than 65 and not many more than 256: as the document lays them -/
/-- what the document's list is, when others lie ahead of it -/
def grown (out new : List LS) : List LS := (out ++ new).take 257
end Go.Proofs.YtfoifmacobldbaaGreatDoor.Kit
namespace Go.Proofs.YtfoifmacobldbaaGreatDoor.Kit
open Go.RowKit Go.Deep
/-! ### append onto a row of the call's own, its elements of several cells -/
section
variable {P : Program} (w : World)

theorem run_append_anyN (t tx ty e : TypeId) (i : TypeInfo) (z : Value) (bytes : Nat) (ht : P.underlying t = some (.slice e)) (hi : P.info? e = some i) (hz : i.zero = some z) (size : Nat) (hsize : i.size = size) (hby : i.bytes = bytes) (hzs : z.cells.size = size)
    (v : Value) (n : Nat) (xs : List Value) (hown : w.ownsRow 0 e size v n xs) (x : Value) (m : Nat) (news : List Value) (hs : Src P size tx x m news w)
    (h63 : n + m ≤ 9223372036854775807) (hbytes : (n + m) * bytes ≤ 140737488355328) :
    ∃ v' w', (Builtin.append_ #[t, tx] ty #[v, x]).run P w = .ok v' w' ∧ w'.ownsRow 0 e size v' (n + m) (xs ++ news) ∧ w.grownBy w' v.ownBlock ∧
      (v'.ownBlock = v.ownBlock ∨ ∀ g, v'.ownBlock = some g → w.heap.size ≤ g) := by
  subst hby
  have hlen : (xs ++ news).length = (n + m) * size := by rw [List.length_append, hown.1, hs.newsLen, Nat.add_mul]
  have grown : ∀ (old : Nat), old < n + m → ∀ (row : Option Nat),
      (w.drew.alloc (.cells ((xs ++ news).toArray ++ Builtin.zeroCells z.cells (grownCap w (n + m) old e - (n + m))) e)).ownsRow 0 e size
        (.slice (some ⟨w.heap.size, 0, none⟩) (n + m) (grownCap w (n + m) old e)) (n + m) (xs ++ news) ∧
      w.grownBy (w.drew.alloc (.cells ((xs ++ news).toArray ++ Builtin.zeroCells z.cells (grownCap w (n + m) old e - (n + m))) e)) row := by
    intro old ho row
    have hge := grownCap_ge w (n + m) old e
    have hcm : grownCap w (n + m) old e ≤ maxLen := grownCap_le_maxLen w (n + m) old e h63
    refine ⟨⟨hlen, .inr ⟨w.heap.size, _, _, rfl, Nat.zero_le _, heap_alloc_new w.drew _, hge, hcm, ?_, ?_⟩⟩, ⟨rfl, rfl, rfl, by simp, fun k hk _ => Below.heap_alloc w.drew _ k hk⟩⟩
    · simp only [Array.size_append, List.size_toArray, size_zeroCells, hzs, hlen, ← Nat.add_mul]
      congr 1
      omega
    · simp only [Array.toList_append]
      rw [← hlen]
      exact List.take_left
  rcases hown.2 with ⟨rfl, rfl⟩ | ⟨g, cap, cur, rfl, hbg, hg, hnc, hcm, hcs, htake⟩
  · have hx : xs = [] := List.eq_nil_of_length_eq_zero (by simpa using hown.1)
    subst hx
    by_cases hm : m = 0
    · subst hm
      have hn : news = [] := List.eq_nil_of_length_eq_zero (by have := hs.newsLen; simpa using this)
      subst hn
      refine ⟨.slice none 0 0, w, ?_, World.ownsRow_nil w 0 e size, ⟨rfl, rfl, rfl, Nat.le_refl _, fun _ _ _ => rfl⟩, .inl rfl⟩
      have hc := hs.cells
      have hl := hs.len
      rcases hs.kind with ⟨e', hk⟩ | hk <;> simp [Builtin.append_, run_underlying ht, run_underlying hk, sizeOf, typeInfo, hi, hsize, hl, hc]
    · have hr := run_append_grow_src (P := P) w t tx ty e i z ht hi hz none 0 0 [] (by simpa using run_firstCells_none w.drew i.size 0 0 0) x m news (by rw [hsize]; exact hs) (by omega) (by omega) (growslice_fits (by omega) hbytes)
      have hgr := grown 0 (by omega) (Value.ownBlock (.slice none 0 0))
      exact ⟨_, _, hr, hgr.1, hgr.2, .inr fun g hg => by simp [Value.ownBlock] at hg; omega⟩
  · by_cases hroom : n + m ≤ cap
    · have hl := hs.newsLen
      have hfit : n * i.size + news.length ≤ cur.size := by rw [hl, hcs, hsize, ← Nat.add_mul]; exact Nat.mul_le_mul_right _ hroom
      have hr := run_append_room_row (P := P) w t tx ty e i ht hi g n cap cur hg x m news (by rw [hsize]; exact hs) hroom hfit
      rw [hsize] at hr hfit
      refine ⟨_, _, hr, ⟨hlen, .inr ⟨g, cap, _, rfl, hbg, setRow_heap w g cur _ e _ hg, hroom, hcm, ?_, ?_⟩⟩, ⟨rfl, rfl, rfl, by simp, fun k _ hk => setRow_other w g k _ (fun e => hk (by simp [Value.ownBlock, e]))⟩, .inl rfl⟩
      · simp only [List.size_toArray, List.length_append, List.length_take, List.length_drop, Array.length_toList]
        omega
      · rw [htake, ← hlen]
        exact List.take_left
    · have holds : ∀ j u, xs[j]? = some u → w.cell? ((⟨g, 0, none⟩ : Addr).add j) = some u := hown.cells (g := g) rfl
      have hr := run_append_grow_src (P := P) w t tx ty e i z ht hi hz (some ⟨g, 0, none⟩) n cap xs (run_firstCells_some w.drew i.size n ⟨g, 0, none⟩ n cap xs (by rw [hsize]; exact hown.1) (by simpa using holds)) x m news (by rw [hsize]; exact hs) (by omega) (by omega) (growslice_fits (by omega) hbytes)
      have hgr := grown cap (by omega) (Value.ownBlock (.slice (some ⟨g, 0, none⟩) n cap))
      exact ⟨_, _, hr, hgr.1, hgr.2, .inr fun g' hg' => by simp [Value.ownBlock] at hg'; omega⟩

/-- as a law for the walk -/
theorem wpList_append_anyN {ops : Array Oper} {rest : List Oper} {o : Oper} {a : Act} {Q : Exit → Act → World → Prop} (hgd : o.guard = none) (s x : Operand) (t tx : TypeId)
    (ho : o.op = .call { callee := .builtin .append, args := #[s, x], argTypes := #[t, tx] })
    (e : TypeId) (z : Value) (size bytes : Nat) (ht : P.underlying t = some (.slice e)) (hinfo : (P.info? e).map (fun i => (i.zero, i.size, i.bytes)) = some (some z, size, bytes)) (hzs : z.cells.size = size)
    (v : Value) (n : Nat) (xs : List Value) (hv : a.eval s = v) (hown : w.ownsRow 0 e size v n xs) (y : Value) (m : Nat) (news : List Value) (hx : a.eval x = y) (hs : Src P size tx y m news w)
    (h63 : n + m ≤ 9223372036854775807) (hbytes : (n + m) * bytes ≤ 140737488355328)
    (h : ∀ v' w', w'.ownsRow 0 e size v' (n + m) (xs ++ news) → w.grownBy w' v.ownBlock → (v'.ownBlock = v.ownBlock ∨ ∀ g, v'.ownBlock = some g → w.heap.size ≤ g) → wpList P ops Q rest (a.put o.dst v') w') :
    wpList P ops Q (o :: rest) a w := by
  refine wpList_plain hgd fun K hK' => ?_
  obtain ⟨i, hi, hzz⟩ := Option.map_eq_some_iff.1 hinfo
  simp only [Prod.mk.injEq] at hzz
  obtain ⟨hz, hsz, hb⟩ := hzz
  obtain ⟨v', w', hr, h2, h3, h4⟩ := run_append_anyN (P := P) w t tx o.type e i z bytes ht hi hz size hsz hb hzs v n xs hown y m news hs h63 hbytes
  unfold Oper.wp
  simp [execOp, ho, resolve, invoke, builtin, hv, hx, hr, Result.andThen]
  exact hK' _ _ (h v' w' h2 h3 h4)

end
end Go.Proofs.YtfoifmacobldbaaGreatDoor.Kit
namespace Go.Proofs.YtfoifmacobldbaaGreatDoor.Kit
open Go.RowKit Go.Shelf Go.Deep
/-! ### the document's list of nodes, as it lies in memory -/
theorem row_kp {W W' : World} {t s n : Nat} {v : Value} {xs : List Value} (h : W.ownsRow 0 t s v n xs) (e : ∀ g, v.ownBlock = some g → W'.heap[g]? = W.heap[g]?) : W'.ownsRow 0 t s v n xs := by
  refine ⟨h.1, h.2.imp id ?_⟩
  rintro ⟨g, cap, cur, rfl, h0, hg, r⟩
  exact ⟨g, cap, cur, rfl, h0, (e g rfl).trans hg, r⟩
theorem own_formN {W : World} {t s n : Nat} {v : Value} {xs : List Value} (h : W.ownsRow 0 t s v n xs) : ∃ vo vc, v = .slice vo n vc := by
  rcases h.2 with ⟨rfl, rfl⟩ | ⟨g, cap, cur, rfl, _⟩
  · exact ⟨_, _, rfl⟩
  · exact ⟨_, _, rfl⟩
noncomputable def z61 : Value := ((Tryz.prog.info? 140).bind (·.zero)).getD default
end Go.Proofs.YtfoifmacobldbaaGreatDoor.Kit
namespace Go.Proofs.YtfoifmacobldbaaGreatDoor.Kit
open Go.RowKit Go.Shelf Go.Deep
set_option linter.unusedVariables false
set_option linter.unusedSimpArgs false
attribute [local go_sem] run_store_func
/-! ### the text that Print builds -/
def bv (l : List UInt8) : List Value := l.map fun b => .int .u8 (b.toNat : Int)
/-- of what was there, and of what came later and holds no bytes, all stays -/
def IsB (a w : World) (k : Nat) : Prop := a.heap.size ≤ k ∧ ∃ cs fz, w.heap[k]? = some (.cells cs 5 fz)
def Fr (a w W : World) : Prop := Keeps w W (IsB a w)
theorem Gr.fr {a w W : World} (g : Gr w W) : Fr a w W := g.mono (fun _ _ h => h.elim)
theorem Fr.trans {a u v w : World} (h : Fr a u v) (g : Fr a v w) : Fr a u w := by
  refine Keeps.trans h g (fun k hk ⟨hl, cs, fz, e⟩ => ?_)
  by_cases hb : IsB a u k
  · exact hb
  · exact ⟨hl, cs, fz, (h.block k hk hb).symm.trans e⟩
theorem Fr.refl (a w : World) : Fr a w w := Keeps.refl w _
theorem notB {a W : World} {b : Nat} {cs : Array Value} {t : TypeId} {fz : Nat × Nat} (h : W.heap[b]? = some (.cells cs t fz)) (ht : t ≠ 5) : ¬ IsB a W b := by
  rintro ⟨_, c, z, e⟩
  rw [h] at e
  injection e with e
  injection e with _ e _
  exact ht e
theorem Fr.cell {a w W : World} (h : Fr a w W) {b o : Nat} {v : Value} {cs : Array Value} {t : TypeId} {fz : Nat × Nat} (hb : w.heap[b]? = some (.cells cs t fz)) (ht : t ≠ 5) : W.heap[b]? = some (.cells cs t fz) :=
  (h.block b (lt_of_heap hb) (notB hb ht)).trans hb
/-- bytes of the call's own; w.1: as it was; w.2: of it no block that holds no bytes has changed -/
structure Byts (w : World × World) (W : World) (vo : Option Addr) (vc n : Nat) (bs : List UInt8) : Prop where
  own : W.ownsRow 0 5 1 (.slice vo n vc) n (bv bs)
  gr : Gr w.1 W
  new : ∀ g, (Value.slice vo n vc).ownBlock = some g → w.1.heap.size ≤ g
  fr : Fr w.1 w.2 W
theorem own_isB {W : World} {v : Value} {n : Nat} {xs : List Value} (h : W.ownsRow 0 5 1 v n xs) (g : Nat) (e : v.ownBlock = some g) : ∃ cs fz, W.heap[g]? = some (.cells cs 5 fz) := by
  rcases h.2 with ⟨rfl, _⟩ | ⟨g', cap, cur, rfl, _, hb, _⟩
  · cases e
  · cases e
    exact ⟨_, _, hb⟩
theorem info5 : (Tryz.prog.info? 5).map (fun i => (i.zero, i.size, i.bytes)) = some (some (.int .u8 0), 1, 1) := by kernel_rfl
theorem Byts.app {w : World × World} {W W2 : World} {vo vo' : Option Addr} {vc vc' n m : Nat} {bs us : List UInt8} {vs : List Value} (h : Byts w W vo vc n bs) (hvs : vs = bv us)
    (ho : W2.ownsRow 0 5 1 (.slice vo' m vc') m (bv bs ++ vs)) (hg : W.grownBy W2 (Value.slice vo n vc).ownBlock)
    (hor : (Value.slice vo' m vc').ownBlock = (Value.slice vo n vc).ownBlock ∨ ∀ g, (Value.slice vo' m vc').ownBlock = some g → W.heap.size ≤ g) : Byts w W2 vo' vc' m (bs ++ us) := by
  refine ⟨?_, h.gr.trans (Keeps.ofGrown hg) (fun j hj e => by have := h.new j e; omega), fun g hg' => ?_, h.fr.trans ((Keeps.ofGrown hg).mono fun k _ e => ⟨h.new k e, own_isB h.own k e⟩)⟩
  · have e : bv (bs ++ us) = bv bs ++ vs := by rw [hvs]; simp [bv]
    rw [e]; exact ho
  · rcases hor with h1 | h1
    · rw [h1] at hg'; exact h.new g hg'
    · exact Nat.le_trans h.gr.size (h1 g hg')
theorem Byts.gr' {w : World × World} {W W' : World} {vo : Option Addr} {vc n : Nat} {bs : List UInt8} (h : Byts w W vo vc n bs) (g : Gr W W') : Byts w W' vo vc n bs :=
  ⟨own_kp h.own fun b e => g.block b (own_lt h.own b e) id, h.gr.trans g (fun _ _ h => h), h.new, h.fr.trans g.fr⟩
/-- the second base may be put later -/
theorem Byts.here {w : World × World} {W : World} {vo : Option Addr} {vc n : Nat} {bs : List UInt8} (h : Byts w W vo vc n bs) : Byts (w.1, W) W vo vc n bs := ⟨h.own, h.gr, h.new, Fr.refl _ W⟩
theorem Byts.back {a u v W : World} {vo : Option Addr} {vc n : Nat} {bs : List UInt8} (h : Byts (a, v) W vo vc n bs) (g : Fr a u v) : Byts (a, u) W vo vc n bs := ⟨h.own, h.gr, h.new, g.trans h.fr⟩
theorem src_u8 (w : World) (cs : List Value) (n : Nat) (hn : n = cs.length) (h1 : ∀ v ∈ cs, ∃ z, v = .int .u8 z) : Src Tryz.prog 1 52 (.slice (some ⟨w.heap.size, 0, none⟩) n n) n cs (w.alloc (.cells cs.toArray 5)) := by
  subst hn
  refine Src.ofSlice (w := w.alloc (.cells cs.toArray 5)) Tryz.underlying52 ⟨w.heap.size, 0, none⟩ cs.length cs.length cs (by simp) (fun j x h => ?_) (fun x h => by obtain ⟨z, rfl⟩ := h1 x h; rfl)
  have hb := World.alloc_heap_new w (.cells cs.toArray 5)
  have e : (⟨w.heap.size, 0, none⟩ : Addr).add j = ⟨w.heap.size, j, none⟩ := by cases j <;> simp [Addr.add]
  rw [e]
  simp only [World.cell?, hb]
  simpa using h
theorem bytes_string {w : World × World} {W : World} {vo : Option Addr} {vc n : Nat} {bs : List UInt8} (h : Byts w W vo vc n bs) (h0 : 0 < n) : (convert 52 9 (.slice vo n vc)).run Tryz.prog W = .ok (.string ⟨bs.toArray⟩) W := by
  have hl : bs.length = n := by have := h.own.1; simpa [bv] using this
  rcases h.own.2 with ⟨e, e0⟩ | ⟨g, cap, cur, e, _⟩
  · omega
  · cases e
    subst hl
    refine run_convert_bytes_back W 52 9 5 ⟨g, 0, none⟩ vc bs Tryz.underlying52 Tryz.underlying5 Tryz.underlying9 fun j hj => ?_
    exact h.own.cells rfl j _ (by simp [bv, List.getElem?_eq_getElem hj])

theorem Byts.len {w : World × World} {W : World} {vo : Option Addr} {vc n : Nat} {bs : List UInt8} (h : Byts w W vo vc n bs) : bs.length = n := by have := h.own.1; simpa [bv] using this
theorem comma83 (i : Nat) (w : World × World) (W : World) (vo : Option Addr) (vc n : Nat) (bs : List UInt8) (HK : Hid (Byts w W vo vc n bs)) (hn : n < 1000000000000) : Calls Tryz.prog 83 #[.slice vo n vc, .int .i64 (i : Int)] W fun e W' => ∃ vo' vc' n', e = .returned (.slice vo' n' vc') ∧ Byts w W' vo' vc' n' (bs ++ if i = 0 then [] else [44]) := by
  by_cases h : (i : Int) = 0
  · obtain rfl : i = 0 := by omega
    clear h
    rw [show ((0 : Nat) : Int) = 0 from rfl]
    go_enter Tryz.func83, Tryz.ntmps83
    go_wp2
    go_ret
    exact ⟨_, _, _, rfl, HK.out⟩
  · go_enter Tryz.func83, Tryz.ntmps83
    go_wp2_with (at_builtin; refine Hid.out ?_)
    unfold Hid
    refine wpList_append_any _ rfl (.tmp 8) (.tmp 9) 52 52 rfl 5 (.int .u8 0) 1 Tryz.underlying52 info5 rfl _ n (bv bs) rfl (HK.out.gr' (gr_alloc W _)).own _ 1 [.int .u8 44] rfl (src_u8 W [.int .u8 44] 1 rfl (by simp)) (by omega) (by omega) ?_
    intro v' w1 hown hgrow hblk
    obtain ⟨vo', vc', rfl⟩ := own_formN hown
    have HN : Hid (Byts w w1 vo' vc' (n + 1) (bs ++ [44])) := (HK.out.gr' (gr_alloc W _)).app (us := [44]) rfl hown hgrow hblk
    clear hown hgrow hblk HK
    go_wp2_with fail
    go_ret
    exact ⟨_, _, _, rfl, HN.out⟩
/-! ### the text of a Text -/
def qs (s : ByteArray) (k : Nat) : List UInt8 := 34 :: (s.data.toList.take k).flatMap QE.esc
theorem qs_succ (s : ByteArray) (k : Nat) (h : k < s.size) : qs s (k + 1) = qs s k ++ QE.esc (s[k]'h) := by
  have hb : s.data.toList[k]? = some (s[k]'h) := by rw [Array.getElem?_toList]; exact Array.getElem?_eq_getElem h
  unfold qs
  rw [List.take_add_one, hb, List.flatMap_append]
  simp
theorem qs_all (s : ByteArray) : qs s s.size = 34 :: s.data.toList.flatMap QE.esc := by
  unfold qs
  rw [List.take_of_length_le (by simp)]
theorem escaped_len (c : UInt8) : (QE.escaped c).length ≤ 4 := by
  unfold QE.escaped
  repeat' split
  all_goals simp
theorem byteCells_bv (l : List UInt8) : byteCells ⟨l.toArray⟩ = bv l := by
  unfold byteCells bv
  simp
theorem letters46 (s : ByteArray) (hs : s.size ≤ 100000000000) (w : World × World) (W : World) (vo : Option Addr) (vc n : Nat) (bs : List UInt8) (HK : Hid (Byts w W vo vc n bs)) (hn : n < 1000000000000) : Calls Tryz.prog 46 #[.slice vo n vc, .string s] W fun e W' => ∃ vo' vc' n', e = .returned (.slice vo' n' vc') ∧ Byts w W' vo' vc' n' (bs ++ (qs s s.size ++ [34])) := by
  go_enter Tryz.func46, Tryz.ntmps46
  go_wp2_with (at_builtin; refine Hid.out ?_)
  unfold Hid
  refine wpList_append_any _ rfl (.tmp 7) (.tmp 8) 52 52 rfl 5 (.int .u8 0) 1 Tryz.underlying52 info5 rfl _ n (bv bs) rfl (HK.out.gr' (gr_alloc W _)).own _ 1 [.int .u8 34] rfl (src_u8 W [.int .u8 34] 1 rfl (by simp)) (by omega) (by omega) ?_
  intro v' w1 hown hgrow hblk
  obtain ⟨vo1, vc1, rfl⟩ := own_formN hown
  have H1 : Hid (Byts w w1 vo1 vc1 (n + 1) (bs ++ qs s 0)) := (HK.out.gr' (gr_alloc W _)).app (us := qs s 0) (by simp [qs, bv]) hown hgrow hblk
  clear hown hgrow hblk HK
  go_wp2_with fail
  go_loopw [0, 12] (fun v i wr => ∃ (k m : Nat) (vo : Option Addr) (vc : Nat), k ≤ s.size ∧ m ≤ n + 1 + 4 * k ∧ i = .int .i64 (k : Int) ∧ v = .slice vo m vc ∧ Hid (Byts w wr vo vc m (bs ++ qs s k))) (fun _ i _ => s.size - (intOf i).toNat)
  case atStart => exact ⟨0, n + 1, vo1, vc1, by omega, by omega, rfl, rfl, H1⟩
  case round =>
    obtain ⟨k, m, vo2, vc2, hk, hm, rfl, rfl, HB⟩ := hrel
    clear H1
    by_cases hlt : k < s.size
    · have HQ : Hid (qs s (k + 1) = qs s k ++ QE.esc (s[k]'hlt)) := qs_succ s k hlt
      have hp := plain81 (s[k]'hlt)
      have he := escaped82 (s[k]'hlt)
      have HL := hidM (escaped_len (s[k]'hlt))
      cases hpl : QE.plainB (s[k]'hlt)
      · rw [hpl] at hp
        have HE : Hid (QE.esc (s[k]'hlt) = QE.escaped (s[k]'hlt)) := by
          show _ = _
          unfold QE.esc; rw [hpl]; rfl
        clear hpl
        go_wp2_with (first | (go_at_call 81; refine (hp _).mono ?_; rintro e w' ⟨rfl, hw⟩; replace hw := hw.symm; subst hw) | (go_at_call 82; refine (he _).mono ?_; rintro e w' ⟨rfl, hg⟩; replace hg := hidM hg) | (at_builtin; refine Hid.out ?_))
        unfold Hid
        have hsz : (⟨(QE.escaped (s[k]'hlt)).toArray⟩ : ByteArray).size = (QE.escaped (s[k]'hlt)).length := by show (QE.escaped (s[k]'hlt)).toArray.size = _; exact List.size_toArray
        have hl4 := HL.out
        refine wpList_append_any _ rfl (.tmp 24) (.tmp 26) 52 9 rfl 5 (.int .u8 0) 1 Tryz.underlying52 info5 rfl _ m (bv (bs ++ qs s k)) rfl (HB.out.gr' hg.out).own _ (QE.escaped (s[k]'hlt)).length (bv (QE.escaped (s[k]'hlt))) rfl (by have h := Src.ofString (w := w') (P := Tryz.prog) Tryz.underlying9 ⟨(QE.escaped (s[k]'hlt)).toArray⟩; rw [hsz, byteCells_bv] at h; exact h) (by omega) (by omega) ?_
        intro v' w1 hown hgrow hblk
        obtain ⟨vo', vc', rfl⟩ := own_formN hown
        have HN : Hid (Byts w w1 vo' vc' (m + (QE.escaped (s[k]'hlt)).length) (bs ++ qs s (k + 1))) := by
          rw [HQ.out, HE.out, ← List.append_assoc]
          exact (HB.out.gr' hg.out).app (us := QE.escaped (s[k]'hlt)) rfl hown hgrow hblk
        clear hown hgrow hblk HB HQ HE hsz
        generalize (QE.escaped (s[k]'hlt)).length = z at *
        go_wp2_with fail
        go_roundw
        case rel => exact ⟨k + 1, m + z, vo', vc', by omega, by omega, by simp, rfl, HN⟩
        case measure => simp [intOf]; omega
      · rw [hpl] at hp
        have HE : Hid (QE.esc (s[k]'hlt) = [s[k]'hlt]) := by
          show _ = _
          unfold QE.esc; rw [hpl]; rfl
        clear hpl he
        go_wp2_with (first | (go_at_call 81; refine (hp _).mono ?_; rintro e w' ⟨rfl, hw⟩; replace hw := hw.symm; subst hw) | (at_builtin; refine Hid.out ?_))
        unfold Hid
        refine wpList_append_any _ rfl (.tmp 20) (.tmp 22) 52 52 rfl 5 (.int .u8 0) 1 Tryz.underlying52 info5 rfl _ m (bv (bs ++ qs s k)) rfl (HB.out.gr' (gr_alloc wr _)).own _ 1 [.int .u8 ((s[k]'hlt).toNat : Int)] rfl (src_u8 wr [.int .u8 ((s[k]'hlt).toNat : Int)] 1 rfl (by simp)) (by omega) (by omega) ?_
        intro v' w1 hown hgrow hblk
        obtain ⟨vo', vc', rfl⟩ := own_formN hown
        have HN : Hid (Byts w w1 vo' vc' (m + 1) (bs ++ qs s (k + 1))) := by
          rw [HQ.out, HE.out, ← List.append_assoc]
          exact (HB.out.gr' (gr_alloc wr _)).app (us := [s[k]'hlt]) rfl hown hgrow hblk
        clear hown hgrow hblk HB HQ HE
        go_wp2_with fail
        go_roundw
        case rel => exact ⟨k + 1, m + 1, vo', vc', by omega, by omega, by simp, rfl, HN⟩
        case measure => simp [intOf]; omega
    · obtain rfl : k = s.size := by omega
      go_wp2_with (at_builtin; refine Hid.out ?_)
      unfold Hid
      refine wpList_append_any _ rfl (.tmp 29) (.tmp 30) 52 52 rfl 5 (.int .u8 0) 1 Tryz.underlying52 info5 rfl _ m (bv (bs ++ qs s s.size)) rfl (HB.out.gr' (gr_alloc wr _)).own _ 1 [.int .u8 34] rfl (src_u8 wr [.int .u8 34] 1 rfl (by simp)) (by omega) (by omega) ?_
      intro v' w1 hown hgrow hblk
      obtain ⟨vo', vc', rfl⟩ := own_formN hown
      have HN : Hid (Byts w w1 vo' vc' (m + 1) (bs ++ (qs s s.size ++ [34]))) := by
        rw [← List.append_assoc]
        exact (HB.out.gr' (gr_alloc wr _)).app (us := [34]) rfl hown hgrow hblk
      clear hown hgrow hblk HB
      go_wp2_with fail
      go_ret
      exact ⟨_, _, _, rfl, HN.out⟩
end Go.Proofs.YtfoifmacobldbaaGreatDoor.Kit
