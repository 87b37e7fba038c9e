/- A part of the proof. -/
import Derived.Test.YtapbglhjamddbaaGreatDoorKb
namespace Go.Proofs.YtapbglhjamddbaaGreatDoor
open Go.RowKit
set_option maxRecDepth 100000
abbrev exCells (op:Int) (v:Val) (rel col n:Int) (s:ByteArray) (q:Option Addr) (len c:Nat):List Value:=[.int .i64 op,.int .i64 v.k,.int .i64 v.n,.string v.s,.int .i64 rel,.int .i64 col,.int .i64 n,.string s,.slice q len c]
def okVal (v:Val):Prop:=inR v.k=true∧inR v.n=true∧v.s.size≤maxLen
mutual
def ExM (w:World):Ex→List Value→Prop
 | .mk op v rel col n s l,cs=>okVal v∧∃ q c,cs=exCells op v rel col n s q l.length c∧l.length≤c∧ExL w q 0 l
def ExL (w:World) (q:Option Addr):Nat→List Ex→Prop
 | _,[]=>True
 | i,x :: r=>(∃ g off cs,q=some ⟨g,off,none⟩∧g<w.heap.size∧ExM w x cs∧∀ (k:Nat) u,cs[k]?=some u→w.cell? ⟨g,off+i*9+k,none⟩=some u)∧ExL w q (i+1) r
end
theorem ExM.iff {w:World} {op:Int} {v:Val} {rel col n:Int} {s:ByteArray} {l:List Ex} {cs:List Value}:ExM w (.mk op v rel col n s l) cs↔okVal v∧∃ q c,cs=exCells op v rel col n s q l.length c∧l.length≤c∧ExL w q 0 l:=by rw[ExM]
mutual
theorem ExM.ext {w w':World} (hb:Below w.heap.size w w'):∀ (x:Ex) (cs:List Value),ExM w x cs→ExM w' x cs
 | .mk op v rel col n s l,cs,h=>by
  rw[ExM] at h ⊢
  obtain⟨hv,q,c,e,hc,hl⟩:=h
  exact⟨hv,q,c,e,hc,ExL.ext hb l q 0 hl⟩
theorem ExL.ext {w w':World} (hb:Below w.heap.size w w'):∀ (l:List Ex) (q:Option Addr) (i:Nat),ExL w q i l→ExL w' q i l
 | [],q,i,_=>by rw[ExL];trivial
 | x :: r,q,i,h=>by
  rw[ExL] at h ⊢
  obtain⟨⟨g,off,cs,e,hg,hx,hcell⟩,hr⟩:=h
  exact⟨⟨g,off,cs,e,Nat.lt_of_lt_of_le hg hb.size,ExM.ext hb x cs hx,fun k u hu=>(hb.cell (p:=⟨g,_,none⟩) hg).trans (hcell k u hu)⟩,ExL.ext hb r q (i+1) hr⟩
end
theorem ExL.at_ {w:World} {q:Option Addr}:∀ {l:List Ex} {i j:Nat} {x:Ex},ExL w q i l→l[j]?=some x→∃ g off cs,q=some ⟨g,off,none⟩∧g<w.heap.size∧ExM w x cs∧∀ (k:Nat) u,cs[k]?=some u→w.cell? ⟨g,off+(i+j)*9+k,none⟩=some u
 | y :: l,i,0,x,h,hx=>by
  rw[ExL] at h
  simp at hx
  subst hx
  exact h.1
 | y :: l,i,j+1,x,h,hx=>by
  rw[ExL] at h
  have:=ExL.at_ (l:=l) (i:=i+1) (j:=j) h.2 (by simpa using hx)
  rw[show i+(j+1)=i+1+j by omega]
  exact this
theorem ex_len9 {w:World} {x:Ex} {cs:List Value} (h:ExM w x cs):cs.length=9:=by
 obtain⟨op,v,rel,col,n,s,l⟩:=x
 rw[ExM.iff] at h
 obtain⟨-,q,c,rfl,-,-⟩:=h
 rfl
structure RawE where
 op:Int
 v:Val
 rel:Int
 col:Int
 n:Int
 s:ByteArray
 q:Option Addr
 len:Nat
 c:Nat
abbrev RawE.cells (r:RawE):List Value:=exCells r.op r.v r.rel r.col r.n r.s r.q r.len r.c
theorem RawE.cells_one (r:RawE) (u:Value) (h:u∈r.cells):u.oneCell'=true:=by
 simp only[RawE.cells,exCells,List.mem_cons,List.not_mem_nil,or_false] at h
 rcases h with rfl | rfl | rfl | rfl | rfl | rfl | rfl | rfl | rfl <;> rfl
def rawZ:RawE:=⟨0,zeroVal,0,0,0,⟨#[]⟩,none,0,0⟩
instance:Inhabited RawE:=⟨rawZ⟩
mutual
def ExMP (w:World) (P:Nat→Prop):Ex→List Value→Prop
 | .mk op v rel col n s l,cs=>okVal v∧∃ q c,cs=exCells op v rel col n s q l.length c∧l.length≤c∧ExLP w P q 0 l
def ExLP (w:World) (P:Nat→Prop) (q:Option Addr):Nat→List Ex→Prop
 | _,[]=>True
 | i,x :: r=>(∃ g off cs,q=some ⟨g,off,none⟩∧g<w.heap.size∧P g∧ExMP w P x cs∧∀ (k:Nat) u,cs[k]?=some u→w.cell? ⟨g,off+i*9+k,none⟩=some u)∧ExLP w P q (i+1) r
end
theorem ExMP.iff {w:World} {P:Nat→Prop} {op:Int} {v:Val} {rel col n:Int} {s:ByteArray} {l:List Ex} {cs:List Value}:ExMP w P (.mk op v rel col n s l) cs↔okVal v∧∃ q c,cs=exCells op v rel col n s q l.length c∧l.length≤c∧ExLP w P q 0 l:=by rw[ExMP]
mutual
theorem ExMP.toM {w:World} {P:Nat→Prop}:∀ (x:Ex) (cs:List Value),ExMP w P x cs→ExM w x cs
 | .mk op v rel col n s l,cs,h=>by
  rw[ExMP] at h
  rw[ExM]
  obtain⟨hv,q,c,e,hc,hl⟩:=h
  exact⟨hv,q,c,e,hc,ExLP.toL l q 0 hl⟩
theorem ExLP.toL {w:World} {P:Nat→Prop}:∀ (l:List Ex) (q:Option Addr) (i:Nat),ExLP w P q i l→ExL w q i l
 | [],q,i,_=>by rw[ExL];trivial
 | x :: r,q,i,h=>by
  rw[ExLP] at h
  rw[ExL]
  obtain⟨⟨g,off,cs,e,hg,_,hx,hcell⟩,hr⟩:=h
  exact⟨⟨g,off,cs,e,hg,ExMP.toM x cs hx,hcell⟩,ExLP.toL r q (i+1) hr⟩
end
mutual
theorem ExMP.on {w w':World} {P Q:Nat→Prop} (hs:w.heap.size≤w'.heap.size) (hP:∀ g,P g→g<w.heap.size→w'.heap[g]?=w.heap[g]?) (hQ:∀ g,P g→g<w.heap.size→Q g):∀ (x:Ex) (cs:List Value),ExMP w P x cs→ExMP w' Q x cs
 | .mk op v rel col n s l,cs,h=>by
  rw[ExMP] at h ⊢
  obtain⟨hv,q,c,e,hc,hl⟩:=h
  exact⟨hv,q,c,e,hc,ExLP.on hs hP hQ l q 0 hl⟩
theorem ExLP.on {w w':World} {P Q:Nat→Prop} (hs:w.heap.size≤w'.heap.size) (hP:∀ g,P g→g<w.heap.size→w'.heap[g]?=w.heap[g]?) (hQ:∀ g,P g→g<w.heap.size→Q g):∀ (l:List Ex) (q:Option Addr) (i:Nat),ExLP w P q i l→ExLP w' Q q i l
 | [],q,i,_=>by rw[ExLP];trivial
 | x :: r,q,i,h=>by
  rw[ExLP] at h ⊢
  obtain⟨⟨g,off,cs,e,hg,hp,hx,hcell⟩,hr⟩:=h
  exact⟨⟨g,off,cs,e,Nat.lt_of_lt_of_le hg hs,hQ g hp hg,ExMP.on hs hP hQ x cs hx,fun k u hu=>(World.cell?_of_block (w:=w) (hP g hp hg)).trans (hcell k u hu)⟩,ExLP.on hs hP hQ r q (i+1) hr⟩
end
theorem ExMP.below {w w':World} {P:Nat→Prop} (hb:Below w.heap.size w w') {x:Ex} {cs:List Value} (h:ExMP w P x cs):ExMP w' P x cs:=ExMP.on hb.size (fun g _ hg=>hb.block g hg) (fun _ h _=>h) x cs h
theorem ExMP.len {w:World} {P:Nat→Prop} {x:Ex} {cs:List Value} (h:ExMP w P x cs):cs.length=9:=ex_len9 (ExMP.toM x cs h)
theorem ExLP.of {w:World} {P:Nat→Prop} {q:Option Addr}:∀ {l:List Ex} {i:Nat},(∀ (j:Nat) (x:Ex),l[j]?=some x→∃ g off cs,q=some ⟨g,off,none⟩∧g<w.heap.size∧P g∧ExMP w P x cs∧∀ (k:Nat) u,cs[k]?=some u→w.cell? ⟨g,off+(i+j)*9+k,none⟩=some u)→ExLP w P q i l
 | [],i,_=>by rw[ExLP];trivial
 | x :: r,i,h=>by
  rw[ExLP]
  refine⟨?_,ExLP.of fun j y hy=>?_⟩
  ·obtain⟨g,off,cs,h1,h2,h3,h4,h5⟩:=h 0 x rfl
   exact⟨g,off,cs,h1,h2,h3,h4,fun k u hu=>h5 k u hu⟩
  ·obtain⟨g,off,cs,h1,h2,h3,h4,h5⟩:=h (j+1) y (by simpa using hy)
   refine⟨g,off,cs,h1,h2,h3,h4,fun k u hu=>?_⟩
   rw[show i+1+j=i+(j+1) by omega]
   exact h5 k u hu
theorem ExLP.one {w:World} {P:Nat→Prop} {g:Nat} {x:Ex} {cs:List Value} (hx:ExMP w P x cs) (hg:g<w.heap.size) (hP:P g) (hc:∀ (k:Nat) u,cs[k]?=some u→w.cell? ⟨g,k,none⟩=some u):ExLP w P (some ⟨g,0,none⟩) 0 [x]:=by
 rw[ExLP,ExLP]
 refine⟨⟨g,0,cs,rfl,hg,hP,hx,fun k u hu=>?_⟩,trivial⟩
 rw[show 0+0*9+k=k by omega]
 exact hc k u hu
theorem ExLP.two {w:World} {P:Nat→Prop} {g:Nat} {x y:Ex} {cs ds:List Value} (hx:ExMP w P x cs) (hy:ExMP w P y ds) (hg:g<w.heap.size) (hP:P g) (hc:∀ (k:Nat) u,(cs++ds)[k]?=some u→w.cell? ⟨g,k,none⟩=some u):ExLP w P (some ⟨g,0,none⟩) 0 [x,y]:=by
 have hl:=hx.len
 rw[ExLP,ExLP,ExLP]
 refine⟨⟨g,0,cs,rfl,hg,hP,hx,fun k u hu=>?_⟩,⟨g,0,ds,rfl,hg,hP,hy,fun k u hu=>?_⟩,trivial⟩
 ·rw[show 0+0*9+k=k by omega]
  exact hc k u (by rw[List.getElem?_append_left (List.getElem?_eq_some_iff.1 hu).1];exact hu)
 ·rw[show 0+(0+1)*9+k=9+k by omega]
  exact hc (9+k) u (by rw[List.getElem?_append_right (by omega),hl,show 9+k - 9=k by omega];exact hu)
end Go.Proofs.YtapbglhjamddbaaGreatDoor
