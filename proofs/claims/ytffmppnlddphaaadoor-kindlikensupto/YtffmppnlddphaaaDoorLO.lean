import Derived.Test.YtffmppnlddphaaaDoorLN
namespace Go.Proofs.YtffmppnlddphaaaDoor.Kit
open Go.RowKit Go.Shelf Go.Deep

theorem own_pos {W : World} {vo : Option Addr} {vn vc : Nat} {xs : List Value} (h : W.ownsRow 0 3 1 (.slice vo vn vc) vn xs) : vn ≤ vc ∧ (0 < vn → ∃ g, vo = some ⟨g, 0, none⟩) := by
  rcases h.2 with ⟨e, h0⟩ | ⟨g, cap, cur, e, _, _, h1, _⟩
  · subst h0; exact ⟨Nat.zero_le _, fun h => absurd h (Nat.lt_irrefl 0)⟩
  · cases e; exact ⟨h1, fun _ => ⟨g, rfl⟩⟩
theorem lists_one : listsE ([] : List FT).length.succ [] = (0, 0) := by simp [listsE]
theorem notes_none (W : World) : NotesAt W none [] := ⟨by simp [big], fun h => absurd rfl h⟩
theorem checkField_any (S : Nat → Prop) (d : Nat) (f : FT) (ao : Option Addr) (ca : Nat) (w : World) (hT : Tab w) (hr : RowAt S w d ao f.kids) (hca : f.kids.length ≤ ca) (hd : d + 1 ≤ big) (hS : ∀ b, S b → b < w.heap.size) :
    Calls Tryd.prog 13 #[.agg #[.string f.name, .bool f.nul, .int .i64 f.kind, .int .i64 f.width, .int .i64 f.id, .int .i64 f.index, .slice ao f.kids.length ca]] w (FieldR w (nodes (d + 1) [f] [] false)) := by
  refine Calls.mono (checkField_walk _ _ _ _ _ _ _ _ _ w (FaultQ (0, 0) (nodes (d + 1) [f] [] false)) ?_ ?_) fun e w' h => h.field
  · intro W g gW hg hx
    have hrow := row_alone hx (hr.kept fun b h => gW.block b (hS b h) id) hca
    have h := check_fault (w := W) (fo := some ⟨g, 0, none⟩) (no := none) (cf := 1) (cn := 0) (fs := [f]) (ns := []) (hT.gr gW) hrow (by simp) hd (fun c h => h.elim (fun h => Nat.lt_of_lt_of_le (hS c h) gW.size) fun h => by rw [h]; exact lt_of_heap hx) (notes_none W) W (Keeps.refl _ _)
    exact h
  · rintro er vo vn vc tt A ⟨p, h1, h2, h3⟩
    have h4 := own_pos h3
    refine ⟨h4.1, fun h => by rw [← h1, h2.way.1 h]; rfl, fun h => ?_⟩
    have : 0 < vn := by rw [← h1]; exact List.length_pos_iff.2 (h2.way.2 h)
    exact ⟨this, h4.2 this⟩
theorem checkFieldR_any (S : Nat → Prop) (d : Nat) (f : FT) (ao : Option Addr) (ca : Nat) (w : World) (hr : RowAt S w d ao f.kids) (hca : f.kids.length ≤ ca) (hS : ∀ b, S b → b < w.heap.size) :
    Calls Tryd.prog 14 #[.agg #[.string f.name, .bool f.nul, .int .i64 f.kind, .int .i64 f.width, .int .i64 f.id, .int .i64 f.index, .slice ao f.kids.length ca]] w (FieldR w (grown [] (nodesC (d + 1) [f] [] false))) := by
  refine Calls.mono (checkFieldR_walk _ _ _ _ _ _ _ _ _ w (FaultQ (0, 0) (grown [] (nodesC (d + 1) [f] [] false))) ?_ ?_) fun e w' h => h.field
  · intro W g gW hg hx
    have hrow := row_alone hx (hr.kept fun b h => gW.block b (hS b h) id) hca
    have h := checkR_fault (w := W) (fo := some ⟨g, 0, none⟩) (no := none) (cf := 1) (cn := 0) (fs := [f]) (ns := []) hrow (by simp) (fun c h => h.elim (fun h => Nat.lt_of_lt_of_le (hS c h) gW.size) fun h => by rw [h]; exact lt_of_heap hx) (notes_none W) W (Keeps.refl _ _)
    exact h
  · rintro er vo vn vc tt A ⟨p, h1, h2, h3⟩
    exact own_pos h3
end Go.Proofs.YtffmppnlddphaaaDoor.Kit
