import Derived.Test.YtdihbfjjddmbiaaGreatDoorRX
import Derived.Maps.AppendAt
import Derived.Test.YtdihbfjjddmbiaaGreatDoorProg
namespace Go.Proofs.YtdihbfjjddmbiaaGreatDoor.Kit
open Go.RowKit Go.Shelf Go.Deep
inductive FT where
  | mk (name : ByteArray) (nul : Bool) (kind width id index : Int) (kids : List FT)
deriving Inhabited
namespace FT
def name : FT → ByteArray | mk n _ _ _ _ _ _ => n
def nul : FT → Bool | mk _ n _ _ _ _ _ => n
def kind : FT → Int | mk _ _ k _ _ _ _ => k
def width : FT → Int | mk _ _ _ w _ _ _ => w
def id : FT → Int | mk _ _ _ _ i _ _ => i
def index : FT → Int | mk _ _ _ _ _ i _ => i
def kids : FT → List FT | mk _ _ _ _ _ _ l => l
end FT
def big : Nat := 1000000000000
structure CellsAt (W : World) (b o : Nat) (f : FT) (ao : Option Addr) (ca : Nat) : Prop where
  c0 : W.cell? ⟨b, o, none⟩ = some (.string f.name)
  c1 : W.cell? ⟨b, o + 1, none⟩ = some (.bool f.nul)
  c2 : W.cell? ⟨b, o + 2, none⟩ = some (.int .i64 f.kind)
  c3 : W.cell? ⟨b, o + 3, none⟩ = some (.int .i64 f.width)
  c4 : W.cell? ⟨b, o + 4, none⟩ = some (.int .i64 f.id)
  c5 : W.cell? ⟨b, o + 5, none⟩ = some (.int .i64 f.index)
  c6 : W.cell? ⟨b, o + 6, none⟩ = some (.slice ao f.kids.length ca)
def RowAt (S : Nat → Prop) (W : World) : Nat → Option Addr → List FT → Prop
  | 0, _, l => l = []
  | d + 1, ao, l => l.length ≤ big ∧ (l ≠ [] → ∃ b o, ao = some ⟨b, o, none⟩ ∧ S b ∧ ∀ i (h : i < l.length), ∃ ao' ca', CellsAt W b (o + i * 7) l[i] ao' ca' ∧ l[i].kids.length ≤ ca' ∧ RowAt S W d ao' l[i].kids)
theorem CellsAt.kept {W W' : World} {b o : Nat} {f : FT} {ao : Option Addr} {ca : Nat} (h : CellsAt W b o f ao ca) (e : W'.heap[b]? = W.heap[b]?) : CellsAt W' b o f ao ca := by
  have k : ∀ j, W'.cell? ⟨b, j, none⟩ = W.cell? ⟨b, j, none⟩ := fun j => World.cell?_of_block (w := W) e
  exact ⟨(k _).trans h.c0, (k _).trans h.c1, (k _).trans h.c2, (k _).trans h.c3, (k _).trans h.c4, (k _).trans h.c5, (k _).trans h.c6⟩
theorem RowAt.kept {S : Nat → Prop} {W W' : World} (k : KpOf S W W') : ∀ {d : Nat} {ao : Option Addr} {l : List FT}, RowAt S W d ao l → RowAt S W' d ao l
  | 0, _, _, h => h
  | _ + 1, _, _, h => ⟨h.1, fun hn => by
    obtain ⟨b, o, e, hb, hi⟩ := h.2 hn
    refine ⟨b, o, e, hb, fun i hl => ?_⟩
    obtain ⟨ao', ca', hc, hle, hr⟩ := hi i hl
    exact ⟨ao', ca', hc.kept (k b hb), hle, RowAt.kept k hr⟩⟩
theorem RowAt.mono {S T : Nat → Prop} (hST : ∀ b, S b → T b) {W : World} : ∀ {d : Nat} {ao : Option Addr} {l : List FT}, RowAt S W d ao l → RowAt T W d ao l
  | 0, _, _, h => h
  | _ + 1, _, _, h => ⟨h.1, fun hn => by
    obtain ⟨b, o, e, hb, hi⟩ := h.2 hn
    refine ⟨b, o, e, hST b hb, fun i hl => ?_⟩
    obtain ⟨ao', ca', hc, hle, hr⟩ := hi i hl
    exact ⟨ao', ca', hc, hle, RowAt.mono hST hr⟩⟩
theorem RowAt.len {S : Nat → Prop} {W : World} {d : Nat} {ao : Option Addr} {l : List FT} (h : RowAt S W d ao l) : l.length ≤ big := by
  cases d with
  | zero => have : l = [] := h; subst this; simp [big]
  | succ d => exact h.1
structure LS where
  list : List FT
  path : List Nat
  inD : Bool
def nodes : Nat → List FT → List Nat → Bool → List LS
  | 0, _, _, _ => []
  | d + 1, l, path, inD => (List.range l.length).flatMap fun i => ⟨l, path ++ [i], inD⟩ :: nodes d (l[i]!).kids (path ++ [i]) (inD || decide ((l[i]!).kind = 19))
def upto (d : Nat) (l : List FT) (path : List Nat) (inD : Bool) (i : Nat) : List LS :=
  (List.range i).flatMap fun i => ⟨l, path ++ [i], inD⟩ :: nodes d (l[i]!).kids (path ++ [i]) (inD || decide ((l[i]!).kind = 19))
theorem nodes_succ (d : Nat) (l : List FT) (path : List Nat) (inD : Bool) : nodes (d + 1) l path inD = upto d l path inD l.length := rfl
theorem upto_zero (d : Nat) (l : List FT) (path : List Nat) (inD : Bool) : upto d l path inD 0 = [] := rfl
theorem upto_succ (d : Nat) (l : List FT) (path : List Nat) (inD : Bool) (i : Nat) :
    upto d l path inD (i + 1) = upto d l path inD i ++ ⟨l, path ++ [i], inD⟩ :: nodes d (l[i]!).kids (path ++ [i]) (inD || decide ((l[i]!).kind = 19)) := by
  simp [upto, List.range_succ, List.flatMap_append]
theorem upto_prefix (d : Nat) (l : List FT) (path : List Nat) (inD : Bool) {i j : Nat} (h : i ≤ j) : upto d l path inD i <+: upto d l path inD j := by
  induction j with
  | zero => obtain rfl : i = 0 := by omega
            exact List.prefix_rfl
  | succ j ih =>
    by_cases e : i = j + 1
    · subst e; exact List.prefix_rfl
    exact (ih (by omega)).trans (by rw [upto_succ]; exact List.prefix_append _ _)
structure Spot where
  ao : Option Addr
  ca : Nat
  list : List FT
  path : List Nat
  wb : Nat
  wc : Nat
  inD : Bool
  d : Nat
def Spot.ls (x : Spot) : LS := ⟨x.list, x.path, x.inD⟩
def ints (l : List Nat) : List Value := l.map fun (n : Nat) => Value.int .i64 (n : Int)
end Go.Proofs.YtdihbfjjddmbiaaGreatDoor.Kit
namespace Go.Proofs.YtdihbfjjddmbiaaGreatDoor.Kit
open Go.RowKit Go.Shelf Go.Deep
set_option linter.unusedVariables false
theorem run_store_func {P : Program} {w : World} {a : Addr} {m : Mode} (f : Fn) (env lb : Array Value) : (store a (.func f env lb) m).run P w = stored P w a (.func f env lb) m := run_store P w a _ m rfl
attribute [local go_sem] Oper.semAt_some run_store_func
structure AtS (S O : Nat → Prop) (x : Spot) (W : World) : Prop where
  row : RowAt S W (x.d + 1) x.ao x.list
  le : x.list.length ≤ x.ca
  ix : ∃ p i, x.path = p ++ [i] ∧ i < x.list.length
  way : W.ownsRow 0 3 1 (.slice (some ⟨x.wb, 0, none⟩) x.path.length x.wc) x.path.length (ints x.path)
  wO : O x.wb
  deep : x.path.length ≤ big
def encS (x : Spot) : Array Value := #[.agg #[.slice x.ao x.list.length x.ca, .slice (some ⟨x.wb, 0, none⟩) x.path.length x.wc, .bool x.inD]]
structure Dn (l bw by_ bd : Nat) (O : Nat → Prop) (path : List Nat) (W : World) : Prop where
  yb : Boxed W by_ 129 (.func (.yield l) #[] #[])
  db : Boxed W bd 130 (.func (.func 84) #[] #[.pointer (some ⟨bw, 0, none⟩), .pointer (some ⟨by_, 0, none⟩), .pointer (some ⟨bd, 0, none⟩)])
  wy : ∃ vo vc, Boxed W bw 65 (.slice vo path.length vc) ∧ W.ownsRow 0 3 1 (.slice vo path.length vc) path.length (ints path) ∧ ∀ g, (Value.slice vo path.length vc).ownBlock = some g → O g
  ow : O bw
  oy : O by_
  od : O bd
theorem Boxed.kp {W W' : World} {B t : Nat} {v : Value} (h : Boxed W B t v) (e : W'.heap[B]? = W.heap[B]?) : Boxed W' B t v := (e.trans h : _)
theorem own_kp {W W' : World} {t : Nat} {v : Value} {n : Nat} {xs : List Value} (h : W.ownsRow 0 t 1 v n xs) (e : ∀ g, v.ownBlock = some g → W'.heap[g]? = W.heap[g]?) : W'.ownsRow 0 t 1 v n xs := by
  refine ⟨h.1, h.2.imp id ?_⟩
  rintro ⟨g, cap, cur, rfl, h0, hg, r⟩
  exact ⟨g, cap, cur, rfl, h0, (e g rfl).trans hg, r⟩
theorem Dn.kept {l bw by_ bd : Nat} {O : Nat → Prop} {path : List Nat} {W W' : World} (h : Dn l bw by_ bd O path W) (k : KpOf O W W') : Dn l bw by_ bd O path W' := by
  obtain ⟨vo, vc, h1, h2, h3⟩ := h.wy
  exact ⟨Boxed.kp h.yb (k _ h.oy), Boxed.kp h.db (k _ h.od), ⟨vo, vc, Boxed.kp h1 (k _ h.ow), own_kp h2 fun g e => k g (h3 g e), h3⟩, h.ow, h.oy, h.od⟩
theorem wpListIn_append_any {F : Fence} {n : Nat} {P : Program} (w : World) {ops : Array Oper} {rest : List Oper} {o : Oper} {a : Act} {Q : Exit → Act → World → Prop} (hgd : o.guard = none) (s x : Operand) (t tx : TypeId)
    (ho : o.op = .call { callee := .builtin .append, args := #[s, x], argTypes := #[t, tx] })
    (e : TypeId) (z : Value) (bytes : Nat) (ht : P.underlying t = some (.slice e)) (hinfo : (P.info? e).map (fun i => (i.zero, i.size, i.bytes)) = some (some z, 1, bytes)) (hzs : z.cells.size = 1)
    (v : Value) (k : Nat) (xs : List Value) (hv : a.eval s = v) (hown : w.ownsRow 0 e 1 v k xs) (y : Value) (m : Nat) (news : List Value) (hx : a.eval x = y) (hs : Src P 1 tx y m news w)
    (h63 : k + m ≤ 9223372036854775807) (hbytes : (k + m) * bytes ≤ 140737488355328)
    (h : ∀ v' w', w'.ownsRow 0 e 1 v' (k + m) (xs ++ news) → w.grownBy w' v.ownBlock → (v'.ownBlock = v.ownBlock ∨ ∀ g, v'.ownBlock = some g → w.heap.size ≤ g) → wpListIn F n P ops Q rest (a.put o.dst v') w') :
    wpListIn F n P ops Q (o :: rest) a w := by
  refine wpListIn_plain hgd fun K hK' => ?_
  obtain ⟨i, hi, hzz⟩ := Option.map_eq_some_iff.1 hinfo
  simp only [Prod.mk.injEq] at hzz
  obtain ⟨hz, hsz, hb⟩ := hzz
  obtain ⟨v', w', hr, h2, h3, h4⟩ := run_append_any (P := P) w t tx o.type e i z bytes ht hi hz hsz hb hzs v k xs hown y m news hs h63 hbytes
  unfold Oper.wpIn
  refine ⟨by simp [Oper.about, ho, resolve, Target.leads, Sem.run_pure], ?_⟩
  rw [Oper.semAt_plain F _ _ (by rw [ho]; intro c hc'; cases hc')]
  simp [execOp, ho, resolve, invoke, builtin, hv, hx, hr, Result.andThen]
  exact hK' _ _ (h v' w' h2 h3 h4)
theorem info3 : (Tryz.prog.info? 3).map (fun i => (i.zero, i.size, i.bytes)) = some (some (.int .i64 0), 1, 8) := by kernel_rfl
theorem cell_new (W : World) (v : Value) (t : TypeId) : (W.alloc (.cells #[v] t)).cell? ⟨W.heap.size, 0, none⟩ = some v := by
  exact (Boxed.new W t v).cell
theorem src_int (w : World) (u : Value) (hu : u.oneCell' = true) : Src Tryz.prog 1 65 (.slice (some ⟨w.heap.size, 0, none⟩) 1 1) 1 [u] (w.alloc (.cells #[u] 3)) := by
  refine Src.ofSlice (w := w.alloc (.cells #[u] 3)) Tryz.underlying65 ⟨w.heap.size, 0, none⟩ 1 1 [u] rfl (fun j v h => ?_) (fun v h => by simp at h; subst h; exact hu)
  cases j with
  | zero => cases h; exact (cell_new w u 3)
  | succ j => simp at h
theorem src_int_at (w : World) (G : Nat) (hG : w.heap.size = G) (u : Value) (hu : u.oneCell' = true) : Src Tryz.prog 1 65 (.slice (some ⟨G, 0, none⟩) 1 1) 1 [u] (w.alloc (.cells #[u] 3)) := by subst hG; exact src_int w u hu
theorem ints_snoc (p : List Nat) (k : Nat) : ints (p ++ [k]) = ints p ++ [.int .i64 (k : Int)] := by simp [ints]
theorem box_ne_row {W : World} {bw t u : Nat} {x : Value} {v : Value} {n : Nat} {xs : List Value} (h : Boxed W bw t x) (ho : W.ownsRow 0 u 1 v n xs) (hne : t ≠ u) (e : v.ownBlock = some bw) : False := by
  rcases ho.2 with ⟨rfl, _⟩ | ⟨g, cap, cur, rfl, _, hg, _⟩
  · simp [Value.ownBlock] at e
  simp [Value.ownBlock] at e
  subst e
  have h2 : W.heap[g]? = _ := h
  rw [hg] at h2
  simp at h2
  exact hne h2.2.symm
theorem dn_step {l bw by_ bd : Nat} {O : Nat → Prop} {path : List Nat} {wr w1 : World} {vo : Option Addr} {vc g cap k : Nat} {F : Obj}
    (hD : Dn l bw by_ bd O path wr) (hO : ∀ b, O b → b < wr.heap.size) (hv : Boxed wr bw 65 (.slice vo path.length vc)) (hown : wr.ownsRow 0 3 1 (.slice vo path.length vc) path.length (ints path)) (hvO : ∀ g, (Value.slice vo path.length vc).ownBlock = some g → O g)
    (ho1 : w1.ownsRow 0 3 1 (.slice (some ⟨g, 0, none⟩) (path.length + 1) cap) (path.length + 1) (ints path ++ [.int .i64 (k : Int)]))
    (hg1 : ((wr.alloc F).alloc (.cells #[.int .i64 (k : Int)] 3)).grownBy w1 (Value.slice vo path.length vc).ownBlock)
    (hor : (Value.slice (some ⟨g, 0, none⟩) (path.length + 1) cap).ownBlock = (Value.slice vo path.length vc).ownBlock ∨ ∀ g', (Value.slice (some ⟨g, 0, none⟩) (path.length + 1) cap).ownBlock = some g' → ((wr.alloc F).alloc (.cells #[.int .i64 (k : Int)] 3)).heap.size ≤ g') :
    Boxed w1 bw 65 (.slice vo path.length vc) ∧ (w1.setCell ⟨bw, 0, none⟩ (.slice (some ⟨g, 0, none⟩) (path.length + 1) cap)).heap[wr.heap.size]? = some F ∧
    Dn l bw by_ bd (fun b => O b ∨ b = wr.heap.size ∨ b = g) (path ++ [k]) (w1.setCell ⟨bw, 0, none⟩ (.slice (some ⟨g, 0, none⟩) (path.length + 1) cap)) ∧
    Keeps wr (w1.setCell ⟨bw, 0, none⟩ (.slice (some ⟨g, 0, none⟩) (path.length + 1) cap)) O ∧
    (∀ b, (O b ∨ b = wr.heap.size ∨ b = g) → b < (w1.setCell ⟨bw, 0, none⟩ (.slice (some ⟨g, 0, none⟩) (path.length + 1) cap)).heap.size ∧ (O b ∨ wr.heap.size ≤ b)) ∧
    (w1.setCell ⟨bw, 0, none⟩ (.slice (some ⟨g, 0, none⟩) (path.length + 1) cap)).ownsRow 0 3 1 (.slice (some ⟨g, 0, none⟩) (path.length + 1) cap) (path ++ [k]).length (ints (path ++ [k])) := by
  have hbw := hO _ hD.ow
  have hne : (Value.slice vo path.length vc).ownBlock ≠ some bw := fun e => box_ne_row hv hown (by decide) e
  have hk1 : Keeps wr w1 (fun b => (Value.slice vo path.length vc).ownBlock = some b) := (((Keeps.refl wr _).alloc F).alloc _).tr (Keeps.ofGrown hg1)
  have hb1 : Boxed w1 bw 65 (.slice vo path.length vc) := Boxed.kp hv (hk1.block _ hbw hne)
  have hgb : (Value.slice (some (⟨g, 0, none⟩ : Addr)) (path.length + 1) cap).ownBlock = some g := rfl
  have hgl : g < w1.heap.size := by
    rcases ho1.2 with ⟨e, _⟩ | ⟨g', cap', cur, e, _, hgg, _⟩
    · cases e
    cases e; exact (Array.getElem?_eq_some_iff.1 hgg).1
  have hgne : g ≠ bw := fun e => box_ne_row hb1 ho1 (by decide) (by rw [hgb, e])
  have hgO : O g ∨ wr.heap.size ≤ g := by
    rcases hor with e | e
    · exact .inl (hvO g (by rw [← e, hgb]))
    have := e g hgb
    simp at this
    exact .inr (by omega)
  have hsz : wr.heap.size < w1.heap.size := by have := hg1.size; simp at this; omega
  have hk2 : Keeps wr (w1.setCell ⟨bw, 0, none⟩ (.slice (some ⟨g, 0, none⟩) (path.length + 1) cap)) O :=
    (hk1.mono fun b _ e => hvO b e).setCell (fun _ => hD.ow) _
  have hother : ∀ b, b ≠ bw → (w1.setCell ⟨bw, 0, none⟩ (.slice (some ⟨g, 0, none⟩) (path.length + 1) cap)).heap[b]? = w1.heap[b]? := fun b h => heap_setCell_other w1 ⟨bw, 0, none⟩ b _ h
  have hnb : ∀ {B t x}, Boxed wr B t x → t ≠ 3 → B ≠ bw → Boxed (w1.setCell ⟨bw, 0, none⟩ (.slice (some ⟨g, 0, none⟩) (path.length + 1) cap)) B t x := fun {B t x} h ht hB =>
    Boxed.kp h ((hother B hB).trans (hk1.block B (Array.getElem?_eq_some_iff.1 (show wr.heap[B]? = _ from h)).1 fun e => box_ne_row h hown ht e))
  have hby : by_ ≠ bw := fun e => by have h1 : wr.heap[by_]? = _ := hD.yb; rw [e, show wr.heap[bw]? = _ from hv] at h1; simp at h1
  have hbd : bd ≠ bw := fun e => by have h1 : wr.heap[bd]? = _ := hD.db; rw [e, show wr.heap[bw]? = _ from hv] at h1; simp at h1
  have how : (w1.setCell ⟨bw, 0, none⟩ (.slice (some ⟨g, 0, none⟩) (path.length + 1) cap)).ownsRow 0 3 1 (.slice (some ⟨g, 0, none⟩) (path.length + 1) cap) (path ++ [k]).length (ints (path ++ [k])) := by
    rw [ints_snoc, List.length_append]
    exact own_kp ho1 fun g' e => by rw [hgb] at e; cases e; exact hother g hgne
  refine ⟨hb1, ?_, ⟨hnb hD.yb (by decide) hby, hnb hD.db (by decide) hbd, ⟨some ⟨g, 0, none⟩, cap, ?_, ?_, ?_⟩, .inl hD.ow, .inl hD.oy, .inl hD.od⟩, hk2, ?_, how⟩
  · rw [hother _ (by omega)]
    have h3 : ((wr.alloc F).alloc (.cells #[.int .i64 (k : Int)] 3)).heap[wr.heap.size]? = some F := (Below.heap_alloc _ _ _ (by simp)).trans (World.alloc_heap_new wr F)
    refine (hg1.block _ (by simp; omega) fun e => ?_).trans h3
    have := hO _ (hvO _ e.symm)
    omega
  · rw [List.length_append]; exact hb1.set _
  · rw [List.length_append]; rw [List.length_append] at how; exact how
  · rw [List.length_append]; rintro g' e; cases e; exact .inr (.inr rfl)
  rintro b (h | rfl | rfl)
  · exact ⟨by have := hO b h; simp [World.setCell]; omega, .inl h⟩
  · exact ⟨by simp [World.setCell]; omega, .inr (Nat.le_refl _)⟩
  exact ⟨by simp [World.setCell]; omega, hgO⟩
end Go.Proofs.YtdihbfjjddmbiaaGreatDoor.Kit
