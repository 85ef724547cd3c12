/-
  A result of a code and places that lies in a block of its own.
-/
import Derived.Test.YtoabohllphoioaaPlace6
namespace Go.Proofs.Ytoabohllphoioaa
open Go.RowKit
structure GotP (w1 : World) (C : Int) (L : Pl) (g : Nat) (A : Option Addr) (c : Nat) (fv : List Nat) (wc : World) : Prop where
  blk : wc.heap[g]? = some (.cells #[.int .i64 C, .slice A L.fs.length c, .int .i64 L.mark] 53 (0, 0))
  rd : PlAt wc L (.slice A L.fs.length c) fv
  nf : NF wc fv
  fr : From w1.heap.size fv
  nd : fv.Nodup
  lo : w1.heap.size ≤ g
  ap : g ∉ fv
  bel : Below w1.heap.size w1 wc
theorem gotp_new {w1 x : World} {C : Int} {L : Pl} {A : Option Addr} {c : Nat} {fv : List Nat} (hr : PlAt x L (.slice A L.fs.length c) fv) (hn : NF x fv) (hf : From w1.heap.size fv) (hd : fv.Nodup) (hb : Below w1.heap.size w1 x) :
    GotP w1 C L x.heap.size A c fv (x.alloc (.cells #[.int .i64 C, .slice A L.fs.length c, .int .i64 L.mark] 53)) :=
  ⟨heap_new x _ rfl, hr.alloc _, hn.keep fun b hb => Below.heap_alloc _ _ _ (hr.lt b hb), hf, hd, hb.size, fun h => by have := hr.lt _ h; omega, hb.alloc hb.size _⟩
theorem gotp_set {w1 x : World} {C : Int} {L : Pl} {A : Option Addr} {c g : Nat} {fv : List Nat} {u v z : Value} (hg : x.heap[g]? = some (.cells #[u, v, z] 53 (0, 0))) (hlo : w1.heap.size ≤ g) (hap : From (g + 1) fv)
    (hr : PlAt x L (.slice A L.fs.length c) fv) (hn : NF x fv) (hd : fv.Nodup) (hb : Below w1.heap.size w1 x) :
    GotP w1 C L g A c fv (((x.setCell ⟨g, 0, none⟩ (.int .i64 C)).setCell ⟨g, 1, none⟩ (.slice A L.fs.length c)).setCell ⟨g, 2, none⟩ (.int .i64 L.mark)) := by
  have hbut := (((But.refl [g] x).setCell (p := ⟨g, 0, none⟩) (by simp) (.int .i64 C)).setCell (p := ⟨g, 1, none⟩) (by simp) (.slice A L.fs.length c)).setCell (p := ⟨g, 2, none⟩) (by simp) (.int .i64 L.mark)
  have hx : ∀ b ∈ fv, b ∉ [g] := fun b hm h => by have := hap b hm; simp at h; omega
  exact ⟨by simp [World.setCell, Array.getElem?_modify, hg], hr.but hbut hx, hn.but hbut hr.lt hx, fun b hm => by have := hap b hm; omega, hd, hlo, fun h => by have := hap _ h; omega, hb.trans (hbut.below hb.size (by intro b hm; simp at hm; omega))⟩
end Go.Proofs.Ytoabohllphoioaa
