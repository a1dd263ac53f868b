import Derived.Test.YtjdojbbjbippoaaDoorRX
namespace Go.Proofs.YtjdojbbjbippoaaDoor.Kit
open Go.RowKit Go.Shelf Go.Deep

/-! ### fields as trees, and as they lie in memory -/
inductive FT where
  | mk (name : ByteArray) (nul : Bool) (kind width id index : Int) (kids : List FT)
deriving Inhabited
namespace FT
def name : FT → ByteArray | mk n _ _ _ _ _ _ => n
def nul : FT → Bool | mk _ n _ _ _ _ _ => n
def kind : FT → Int | mk _ _ k _ _ _ _ => k
def width : FT → Int | mk _ _ _ w _ _ _ => w
def id : FT → Int | mk _ _ _ _ i _ _ => i
def index : FT → Int | mk _ _ _ _ _ i _ => i
def kids : FT → List FT | mk _ _ _ _ _ _ l => l
end FT

def big : Nat := 1000000000000
/-- seven cells: a field -/
structure CellsAt (W : World) (b o : Nat) (f : FT) (ao : Option Addr) (ca : Nat) : Prop where
  c0 : W.cell? ⟨b, o, none⟩ = some (.string f.name)
  c1 : W.cell? ⟨b, o + 1, none⟩ = some (.bool f.nul)
  c2 : W.cell? ⟨b, o + 2, none⟩ = some (.int .i64 f.kind)
  c3 : W.cell? ⟨b, o + 3, none⟩ = some (.int .i64 f.width)
  c4 : W.cell? ⟨b, o + 4, none⟩ = some (.int .i64 f.id)
  c5 : W.cell? ⟨b, o + 5, none⟩ = some (.int .i64 f.index)
  c6 : W.cell? ⟨b, o + 6, none⟩ = some (.slice ao f.kids.length ca)

/-- a list of fields lies in blocks of S; d: no deeper -/
def RowAt (S : Nat → Prop) (W : World) : Nat → Option Addr → List FT → Prop
  | 0, _, l => l = []
  | d + 1, ao, l => l.length ≤ big ∧ (l ≠ [] → ∃ b o, ao = some ⟨b, o, none⟩ ∧ S b ∧ ∀ i (h : i < l.length), ∃ ao' ca', CellsAt W b (o + i * 7) l[i] ao' ca' ∧ l[i].kids.length ≤ ca' ∧ RowAt S W d ao' l[i].kids)

theorem CellsAt.kept {W W' : World} {b o : Nat} {f : FT} {ao : Option Addr} {ca : Nat} (h : CellsAt W b o f ao ca) (e : W'.heap[b]? = W.heap[b]?) : CellsAt W' b o f ao ca := by
  have k : ∀ j, W'.cell? ⟨b, j, none⟩ = W.cell? ⟨b, j, none⟩ := fun j => World.cell?_of_block (w := W) e
  exact ⟨(k _).trans h.c0, (k _).trans h.c1, (k _).trans h.c2, (k _).trans h.c3, (k _).trans h.c4, (k _).trans h.c5, (k _).trans h.c6⟩
theorem RowAt.kept {S : Nat → Prop} {W W' : World} (k : KpOf S W W') : ∀ {d : Nat} {ao : Option Addr} {l : List FT}, RowAt S W d ao l → RowAt S W' d ao l
  | 0, _, _, h => h
  | _ + 1, _, _, h => ⟨h.1, fun hn => by
    obtain ⟨b, o, e, hb, hi⟩ := h.2 hn
    refine ⟨b, o, e, hb, fun i hl => ?_⟩
    obtain ⟨ao', ca', hc, hle, hr⟩ := hi i hl
    exact ⟨ao', ca', hc.kept (k b hb), hle, RowAt.kept k hr⟩⟩
theorem RowAt.mono {S T : Nat → Prop} (hST : ∀ b, S b → T b) {W : World} : ∀ {d : Nat} {ao : Option Addr} {l : List FT}, RowAt S W d ao l → RowAt T W d ao l
  | 0, _, _, h => h
  | _ + 1, _, _, h => ⟨h.1, fun hn => by
    obtain ⟨b, o, e, hb, hi⟩ := h.2 hn
    refine ⟨b, o, e, hST b hb, fun i hl => ?_⟩
    obtain ⟨ao', ca', hc, hle, hr⟩ := hi i hl
    exact ⟨ao', ca', hc, hle, RowAt.mono hST hr⟩⟩
theorem RowAt.len {S : Nat → Prop} {W : World} {d : Nat} {ao : Option Addr} {l : List FT} (h : RowAt S W d ao l) : l.length ≤ big := by
  cases d with
  | zero => have : l = [] := h; subst this; simp [big]
  | succ d => exact h.1

/-- where a walk through fields stands -/
structure LS where
  list : List FT
  path : List Nat
  inD : Bool
/-- the fields, each ahead of those within it -/
def nodes : Nat → List FT → List Nat → Bool → List LS
  | 0, _, _, _ => []
  | d + 1, l, path, inD => (List.range l.length).flatMap fun i => ⟨l, path ++ [i], inD⟩ :: nodes d (l[i]!).kids (path ++ [i]) (inD || decide ((l[i]!).kind = 19))
/-- those of the first i fields -/
def upto (d : Nat) (l : List FT) (path : List Nat) (inD : Bool) (i : Nat) : List LS :=
  (List.range i).flatMap fun i => ⟨l, path ++ [i], inD⟩ :: nodes d (l[i]!).kids (path ++ [i]) (inD || decide ((l[i]!).kind = 19))
theorem nodes_succ (d : Nat) (l : List FT) (path : List Nat) (inD : Bool) : nodes (d + 1) l path inD = upto d l path inD l.length := rfl
theorem upto_zero (d : Nat) (l : List FT) (path : List Nat) (inD : Bool) : upto d l path inD 0 = [] := rfl
theorem upto_succ (d : Nat) (l : List FT) (path : List Nat) (inD : Bool) (i : Nat) :
    upto d l path inD (i + 1) = upto d l path inD i ++ ⟨l, path ++ [i], inD⟩ :: nodes d (l[i]!).kids (path ++ [i]) (inD || decide ((l[i]!).kind = 19)) := by
  simp [upto, List.range_succ, List.flatMap_append]
theorem upto_prefix (d : Nat) (l : List FT) (path : List Nat) (inD : Bool) {i j : Nat} (h : i ≤ j) : upto d l path inD i <+: upto d l path inD j := by
  induction j with
  | zero => obtain rfl : i = 0 := by omega
            exact List.prefix_rfl
  | succ j ih =>
    by_cases e : i = j + 1
    · subst e; exact List.prefix_rfl
    · exact (ih (by omega)).trans (by rw [upto_succ]; exact List.prefix_append _ _)

/-- a spot as it is handed out: where its lists lie, too -/
structure Spot where
  ao : Option Addr
  ca : Nat
  list : List FT
  path : List Nat
  wb : Nat
  wc : Nat
  inD : Bool
  d : Nat
def Spot.ls (x : Spot) : LS := ⟨x.list, x.path, x.inD⟩
def ints (l : List Nat) : List Value := l.map fun (n : Nat) => Value.int .i64 (n : Int)
end Go.Proofs.YtjdojbbjbippoaaDoor.Kit
