import Derived.Test.YtdffjdlpbfcikaaDoorRN
import Derived.Test.YtdffjdlpbfcikaaDoorVZ
namespace Go.Proofs.YtdffjdlpbfcikaaDoor.Kit
open Go.RowKit Go.Shelf Go.Deep
set_option linter.unusedVariables false

/-! ### a head's bytes are read as the head -/
theorem enc_node {n : Int × Int} (h1 : 0 ≤ n.1 ∧ n.1 < 4294967296) (h2 : 0 ≤ n.2 ∧ n.2 < 4294967296) : Enc nodeR (ndM n) n 0 := by
  have h := (enc_num (x := n.1.toNat) (k := 4) (by omega)).bind (f := fun B (x : Nat) => (numR B 4).bind fun y => Rd.pure ((x : Int), (y : Int))) ((enc_num (x := n.2.toNat) (k := 4) (by omega)).last (f := fun y : Nat => ((n.1.toNat : Int), (y : Int))))
  have e : ((n.1.toNat : Int), (n.2.toNat : Int)) = n := by
    obtain ⟨a, b⟩ := n
    simp only at h1 h2
    simp only [Prod.mk.injEq]
    omega
  rw [e] at h
  exact h
theorem enc_slot {n : Int × Int × Int} (h1 : 0 ≤ n.1 ∧ n.1 < 4294967296) (h2 : 0 ≤ n.2.1 ∧ n.2.1 < 4294967296) (h3 : 0 ≤ n.2.2 ∧ n.2.2 < 4294967296) : Enc slotR (slM n) n 0 := by
  have h := (enc_num (x := n.1.toNat) (k := 4) (by omega)).bind (f := fun B (x : Nat) => (numR B 4).bind fun y => (numR B 4).bind fun z => Rd.pure ((x : Int), (y : Int), (z : Int)))
    ((enc_num (x := n.2.1.toNat) (k := 4) (by omega)).bind (f := fun B (y : Nat) => (numR B 4).bind fun z => Rd.pure ((n.1.toNat : Int), (y : Int), (z : Int))) ((enc_num (x := n.2.2.toNat) (k := 4) (by omega)).last (f := fun z : Nat => ((n.1.toNat : Int), (n.2.1.toNat : Int), (z : Int)))))
  have e : ((n.1.toNat : Int), (n.2.1.toNat : Int), (n.2.2.toNat : Int)) = n := by
    obtain ⟨a, b, c⟩ := n
    simp only at h1 h2 h3
    simp only [Prod.mk.injEq]
    omega
  rw [e] at h
  exact h.to (by simp [slM]) rfl
theorem enc_note {n : ByteArray × ByteArray} (h1 : n.1.size < 65536) (h2 : n.2.size < 65536) : Enc noteR (ntM n) n 0 := by
  have h := (enc_text (s := n.1) (k := 2) (by simpa using h1)).bind (f := fun B x => (textR B 2).bind fun y => Rd.pure (x, y)) ((enc_text (s := n.2) (k := 2) (by simpa using h2)).last (f := fun y => (n.1, y)))
  exact h
theorem sum_zero {α : Type} : ∀ l : List α, (l.map fun _ => 0).sum = 0
  | [] => rfl
  | _ :: l => by rw [List.map_cons, List.sum_cons, sum_zero l]
theorem flat_congr {α β : Type} {f g : α → List β} : ∀ {l : List α}, (∀ x ∈ l, f x = g x) → l.flatMap f = l.flatMap g
  | [], _ => rfl
  | x :: l, h => by rw [List.flatMap_cons, List.flatMap_cons, h x List.mem_cons_self, flat_congr fun y hy => h y (List.mem_cons_of_mem _ hy)]
theorem deep_kid {d : Nat} {f : FT} {x : FT} (h : deep d f.kids) (hx : x ∈ f.kids) : ∃ e, d = e + 1 ∧ deep e x.kids := by
  cases d with
  | zero => have e : f.kids = [] := h; rw [e] at hx; cases hx
  | succ d => exact ⟨d, rfl, h x hx⟩
theorem fldB_deep : ∀ (m d : Nat) (f : FT), deep m f.kids → deep d f.kids → fldB d f = fldB m f
  | 0, d, f, h, _ => by
    have e : f.kids = [] := h
    cases d with
    | zero => rfl
    | succ d => simp [fldB, e]
  | m + 1, 0, f, _, h => by have e : f.kids = [] := h; simp [fldB, e]
  | m + 1, d + 1, f, h, h' => by
    rw [fldB, fldB, flat_congr fun x hx => fldB_deep m d x (h x hx) (h' x hx)]
theorem pre_deep : ∀ (m d : Nat) (l : List FT), deep m l → deep d l → pre d l = pre m l
  | 0, d, l, h, _ => by
    have e : l = [] := h
    subst e
    cases d <;> rfl
  | m + 1, 0, l, _, h => by have e : l = [] := h; subst e; rfl
  | m + 1, d + 1, l, h, h' => by
    show (l.flatMap fun f => f :: pre d f.kids) = l.flatMap fun f => f :: pre m f.kids
    exact flat_congr fun x hx => by rw [pre_deep m d x.kids (h x hx) (h' x hx)]
theorem AllR.short64 {P : List LS} (h : AllR P) {s : LS} (hs : s ∈ P) : s.path.length ≤ 64 := by
  obtain ⟨k, hk, rfl⟩ := List.mem_iff_getElem.1 hs
  have := h k hk
  unfold wrongE wr at this
  split at this
  · omega
  · omega
theorem nodes_deep : ∀ (D m : Nat) (l : List FT) (path : List Nat) (inD : Bool), deep D l → (∀ s ∈ nodes D l path inD, s.path.length ≤ path.length + m) → deep m l
  | 0, m, l, _, _, h, _ => by
    have e : l = [] := h
    subst e
    cases m with
    | zero => rfl
    | succ m => exact fun f hf => by cases hf
  | D + 1, m, l, path, inD, h, hp => by
    cases m with
    | zero =>
      cases l with
      | nil => rfl
      | cons f l =>
        have := hp ⟨f :: l, path ++ [0], inD⟩ (by rw [nodes]; exact List.mem_flatMap.2 ⟨0, by simp, by simp⟩)
        simp at this
        omega
    | succ m =>
      intro f hf
      obtain ⟨i, hi, rfl⟩ := List.mem_iff_getElem.1 hf
      have e : l[i]! = l[i] := by simp [hi]
      refine nodes_deep D m l[i].kids (path ++ [i]) (inD || decide (l[i].kind = 19)) (h _ hf) fun s hs => ?_
      have := hp s (by rw [nodes]; exact List.mem_flatMap.2 ⟨i, by simpa using hi, by rw [e]; exact List.mem_cons_of_mem _ hs⟩)
      simp at this ⊢
      omega
theorem deep64 {D : Nat} {fs : List FT} (hd : deep D fs) (h : AllR (nodes D fs [] false)) : deep 64 fs := nodes_deep D 64 fs [] false hd fun s hs => by simpa using h.short64 hs
/-- a schema's -/
theorem enc_sch {D : Nat} {fs : List FT} {ns : List (ByteArray × ByteArray)} (hd : deep D fs) (hy : Yes D fs ns) : ∃ c, c ≤ 256 ∧ Enc schR (schB (fldB (D - 1)) fs ns) (fs, ns) c := by
  have hA := hy.allR hd
  have h64 := deep64 hd hA
  have hpe : pre D fs = pre 64 fs := pre_deep 64 D fs h64 hd
  have hok : ∀ g ∈ pre 64 fs, okM g := fun g hg => okMs_of hA g (hpe ▸ hg)
  have hlen : (pre 64 fs).length ≤ 256 := by rw [← hpe, ← nodes_pre D fs [] false, List.length_map]; exact hA.few
  have hf : ∀ f ∈ fs, fldB (D - 1) f = fldB 63 f := fun f hf => by
    cases D with
    | zero => have e : fs = [] := hd; rw [e] at hf; cases hf
    | succ d => exact fldB_deep 63 d f (h64 f hf) (hd f hf)
  have hin : ∀ f ∈ fs, ∀ g, g = f ∨ g ∈ pre 63 f.kids → g ∈ pre 64 fs := fun f hf g hg => by
    show g ∈ fs.flatMap fun f => f :: pre 63 f.kids
    exact List.mem_flatMap.2 ⟨f, hf, by simpa using hg⟩
  have h1 := enc_sev (R := fun B => fieldR B 64) (enc := fldB (D - 1)) (c := fun f => 1 + (pre 63 f.kids).length) (n := fs.length) fs rfl (fun f hm => by
    rw [hf f hm]
    exact enc_field 63 f (h64 f hm) (hok f (hin f hm f (.inl rfl))) fun g hg => hok g (hin f hm g (.inr hg)))
  have hc : (fs.map fun f => 1 + (pre 63 f.kids).length).sum = (pre 64 fs).length := by
    show _ = (fs.flatMap fun f => f :: pre 63 f.kids).length
    rw [List.length_flatMap]
    congr 1
    exact List.map_congr_left fun x _ => by simp; omega
  have h2 := enc_sev (R := noteR) (enc := ntM) (c := fun _ => 0) (n := ns.length) ns rfl (fun n hn => by
    have := noteBad_len (hy.2.2.1 n hn)
    exact enc_note (by omega) (by omega))
  have b1 := hy.1
  have b2 := hy.2.1
  have e4 := h2.last (f := fun l => (fs, l))
  have e3 := (enc_num (x := ns.length) (k := 2) (by omega)).bind (f := fun B m => (sevR m (noteR B)).bind fun ns => Rd.pure (fs, ns)) e4
  have e2 := h1.bind (f := fun B fs => (numR B 2).bind fun m => (sevR m (noteR B)).bind fun ns => Rd.pure (fs, ns)) e3
  have e1 := (enc_num (x := fs.length) (k := 2) (by omega)).bind (f := fun B n => (sevR n (fieldR B 64)).bind fun fs => (numR B 2).bind fun m => (sevR m (noteR B)).bind fun ns => Rd.pure (fs, ns)) e2
  have hz : (ns.map fun _ => 0).sum = 0 := sum_zero ns
  refine ⟨(pre 64 fs).length, hlen, e1.to (by simp [schB]) ?_⟩
  rw [hc, hz]
  omega
theorem enc_body {k id : Nat} {dl : Bool} {rows pr : Int} {nds : List (Int × Int)} {sls : List (Int × Int × Int)} (hr : 0 ≤ rows ∧ rows ≤ 4096) (hp : 0 ≤ pr ∧ pr ≤ 2) (hn : nds.length ≤ 512) (hs : sls.length ≤ 1536) (h1 : ∀ n ∈ nds, nodeOk n) (h2 : ∀ s ∈ sls, slotOk s) :
    Enc (fun B => bodyR B k id dl) (bdyB rows pr nds sls) ⟨k, [], [], id, dl, rows.toNat, pr.toNat, nds, sls⟩ 0 := by
  have a1 := enc_sev (R := nodeR) (enc := ndM) (c := fun _ => 0) (n := nds.length) nds rfl (fun n hm => by have := h1 n hm; unfold nodeOk at this; exact enc_node (by omega) (by omega))
  have a2 := enc_sev (R := slotR) (enc := slM) (c := fun _ => 0) (n := sls.length) sls rfl (fun n hm => by have := h2 n hm; unfold slotOk at this; exact enc_slot (by omega) (by omega) (by omega))
  have z1 : (nds.map fun _ => 0).sum = 0 := sum_zero nds
  have z2 : (sls.map fun _ => 0).sum = 0 := sum_zero sls
  have e6 := a2.last (f := fun l => HD.mk k [] [] id dl rows.toNat pr.toNat nds l)
  have e5 := (enc_num (x := sls.length) (k := 2) (by omega)).bind (f := fun B m => (sevR m (slotR B)).bind fun sls => Rd.pure (HD.mk k [] [] id dl rows.toNat pr.toNat nds sls)) e6
  have e4 := a1.bind (f := fun B nds => (numR B 2).bind fun m => (sevR m (slotR B)).bind fun sls => Rd.pure (HD.mk k [] [] id dl rows.toNat pr.toNat nds sls)) e5
  have e3 := (enc_num (x := nds.length) (k := 2) (by omega)).bind (f := fun B n => (sevR n (nodeR B)).bind fun nds => (numR B 2).bind fun m => (sevR m (slotR B)).bind fun sls => Rd.pure (HD.mk k [] [] id dl rows.toNat pr.toNat nds sls)) e4
  have e2 := (enc_num (x := pr.toNat) (k := 1) (by omega)).bind (f := fun B pr => (numR B 2).bind fun n => (sevR n (nodeR B)).bind fun nds => (numR B 2).bind fun m => (sevR m (slotR B)).bind fun sls => Rd.pure (HD.mk k [] [] id dl rows.toNat pr nds sls)) e3
  have e1 := (enc_num (x := rows.toNat) (k := 4) (by omega)).bind (f := fun B rows => (numR B 1).bind fun pr => (numR B 2).bind fun n => (sevR n (nodeR B)).bind fun nds => (numR B 2).bind fun m => (sevR m (slotR B)).bind fun sls => Rd.pure (HD.mk k [] [] id dl rows pr nds sls)) e2
  exact e1.to (by simp [bdyB]) (by rw [z1, z2])
def hdOf (k : Int) (fs : List FT) (ns : List (ByteArray × ByteArray)) (di : Int) (dl : Bool) (rows pr : Int) (nds : List (Int × Int)) (sls : List (Int × Int × Int)) : HD := ⟨k.toNat, fs, ns, di.toNat, dl, rows.toNat, pr.toNat, nds, sls⟩
theorem enc_front {k c : Nat} {b : List UInt8} {x : HD} (h1 : 1 ≤ k) (h2 : k ≤ 3) (h : Enc (fun B => restR B k) b x c) : Enc headR (hd4 (k : Int) ++ b) x c := by
  have e4 := (enc_among (x := 0) (lo := 0) (hi := 0) (by omega) (by omega) (by omega)).bind (f := fun B _ => restR B k) h
  have e3 := (enc_among (x := 0) (lo := 0) (hi := 0) (by omega) (by omega) (by omega)).bind (f := fun B _ => (amongR B 0 0).bind fun _ => restR B k) e4
  have e2 := (enc_among (x := 1) (lo := 1) (hi := 1) (by omega) (by omega) (by omega)).bind (f := fun B _ => (amongR B 0 0).bind fun _ => (amongR B 0 0).bind fun _ => restR B k) e3
  have e1 := (enc_among (x := k) (lo := 1) (hi := 3) h1 h2 (by omega)).bind (f := fun B k => (amongR B 1 1).bind fun _ => (amongR B 0 0).bind fun _ => (amongR B 0 0).bind fun _ => restR B k) e2
  refine e1.to ?_ (by omega)
  have : k = 1 ∨ k = 2 ∨ k = 3 := by omega
  rcases this with rfl | rfl | rfl <;> rfl
/-- THERE AND BACK: of the bytes of a head that may be, and of what may stand behind them, the head -/
theorem enc_head {D : Nat} {k : Int} {fs : List FT} {ns : List (ByteArray × ByteArray)} {di : Int} {dl : Bool} {rows pr : Int} {nds : List (Int × Int)} {sls : List (Int × Int × Int)} (hd : deep D fs) (h : HOk (Yes D fs ns) k fs.length ns.length di dl rows pr nds sls) :
    ∃ c, c ≤ 256 ∧ Enc headR (wholeB D k fs ns di dl rows pr nds sls) (hdOf k fs ns di dl rows pr nds sls) c := by
  unfold wholeB hdOf
  rcases h with ⟨rfl, rfl, rfl, rfl, rfl, h5, h6, hy⟩ | ⟨hk, hf, hn, hr, hp, h1, h2, h3, h4, h5, h6⟩
  · obtain rfl := List.length_eq_zero_iff.1 h5
    obtain rfl := List.length_eq_zero_iff.1 h6
    obtain ⟨c, hc, hE⟩ := enc_sch hd hy
    refine ⟨c, hc, ?_⟩
    rw [if_pos rfl]
    refine enc_front (k := 1) (by omega) (by omega) ?_
    exact hE.last (f := fun p => HD.mk 1 p.1 p.2 0 false 0 0 [] [])
  · obtain rfl := List.length_eq_zero_iff.1 hf
    obtain rfl := List.length_eq_zero_iff.1 hn
    refine ⟨0, by omega, ?_⟩
    rcases hk with rfl | rfl
    · have hi := h3 rfl
      rw [if_neg (by decide), if_pos rfl, List.append_assoc]
      refine enc_front (k := 2) (by omega) (by omega) ?_
      have e3 := enc_body (k := 2) (id := di.toNat) (dl := dl) hr hp h1 h2 h5 h6
      have e2 := (enc_flag dl).bind (f := fun B d => bodyR B 2 di.toNat d) e3
      have e1 := (enc_num (x := di.toNat) (k := 2) (by omega)).bind (f := fun B i => (flagR B).bind fun d => bodyR B 2 i d) e2
      exact e1.to (by simp) rfl
    · obtain ⟨rfl, rfl⟩ := h4 rfl
      rw [if_neg (by decide), if_neg (by decide)]
      refine enc_front (k := 3) (by omega) (by omega) ?_
      exact enc_body (k := 3) (id := 0) (dl := false) hr hp h1 h2 h5 h6
end Go.Proofs.YtdffjdlpbfcikaaDoor.Kit
