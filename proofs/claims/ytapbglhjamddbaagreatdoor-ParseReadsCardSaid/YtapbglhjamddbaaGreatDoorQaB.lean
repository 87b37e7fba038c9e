/- A part of the proof. -/
import Derived.Test.YtapbglhjamddbaaGreatDoorQaA
import Derived.Test.YtapbglhjamddbaaGreatDoorKf
import Derived.Test.YtapbglhjamddbaaGreatDoorHd
set_option linter.unusedSimpArgs false
set_option linter.unusedVariables false
namespace Go.Proofs.YtapbglhjamddbaaGreatDoor
open Go.RowKit Go.Deep
set_option maxRecDepth 100000
theorem fin9 {w V:World} {p z k gr b:Nat} {r:List Tok} {x:Ex} {re:RawE} (hgr:w.heap.size≤gr) (hp:p<w.heap.size) (hx:ExMP V (fun j=>b≤j) x re.cells) (hb:gr<b) (hP:PSt V p z r k) (hO:Out (fun j=>j=p∨w.heap.size≤j) w V) :
    ExV w.heap.size (((((((((V.setCell ⟨gr,0,none⟩ (.int .i64 re.op)).setCell ⟨gr,1,none⟩ (.int .i64 re.v.k)).setCell ⟨gr,2,none⟩ (.int .i64 re.v.n)).setCell ⟨gr,3,none⟩ (.string re.v.s)).setCell ⟨gr,4,none⟩ (.int .i64 re.rel)).setCell ⟨gr,5,none⟩ (.int .i64 re.col)).setCell ⟨gr,6,none⟩ (.int .i64 re.n)).setCell ⟨gr,7,none⟩ (.string re.s)).setCell ⟨gr,8,none⟩ (.slice re.q re.len re.c)) x (Value.agg #[.int .i64 re.op,.int .i64 re.v.k,.int .i64 re.v.n,.string re.v.s,.int .i64 re.rel,.int .i64 re.col,.int .i64 re.n,.string re.s,.slice re.q re.len re.c])∧PSt (((((((((V.setCell ⟨gr,0,none⟩ (.int .i64 re.op)).setCell ⟨gr,1,none⟩ (.int .i64 re.v.k)).setCell ⟨gr,2,none⟩ (.int .i64 re.v.n)).setCell ⟨gr,3,none⟩ (.string re.v.s)).setCell ⟨gr,4,none⟩ (.int .i64 re.rel)).setCell ⟨gr,5,none⟩ (.int .i64 re.col)).setCell ⟨gr,6,none⟩ (.int .i64 re.n)).setCell ⟨gr,7,none⟩ (.string re.s)).setCell ⟨gr,8,none⟩ (.slice re.q re.len re.c)) p z r k∧Out (fun j=>j=p) w (((((((((V.setCell ⟨gr,0,none⟩ (.int .i64 re.op)).setCell ⟨gr,1,none⟩ (.int .i64 re.v.k)).setCell ⟨gr,2,none⟩ (.int .i64 re.v.n)).setCell ⟨gr,3,none⟩ (.string re.v.s)).setCell ⟨gr,4,none⟩ (.int .i64 re.rel)).setCell ⟨gr,5,none⟩ (.int .i64 re.col)).setCell ⟨gr,6,none⟩ (.int .i64 re.n)).setCell ⟨gr,7,none⟩ (.string re.s)).setCell ⟨gr,8,none⟩ (.slice re.q re.len re.c)):=by
  have o:=out9 V gr (.int .i64 re.op) (.int .i64 re.v.k) (.int .i64 re.v.n) (.string re.v.s) (.int .i64 re.rel) (.int .i64 re.col) (.int .i64 re.n) (.string re.s) (.slice re.q re.len re.c)
  refine⟨⟨re,rfl,ExMP.on o.size (fun j hj hl=>o.block j hl (by omega)) (fun j hj _=>by omega) _ _ hx⟩,hP.outs o (fun j hj=>by omega),Out.down (hO.trans (o.mono fun j _ hj=>.inr (by omega)))⟩
theorem Tryz.mkFunc (fn:Fn) (first cap:Array Value) (w:World):(Instr.makeFunc fn first cap).run Tryz.prog w=.ok (.func fn first cap) w:=rfl
abbrev RdC (f:FuncId) (p z k:Nat) (one:Rd Ex):Prop:=∀ (l:List Tok) (w:World),PSt w p z l k→Calls Tryz.prog f #[.pointer (some ⟨p,0,none⟩)] w (Ans ExV p z k (one l) w)
theorem Tryz.enter_not (args:Array Value) (w:World):(callFunc 90 args).run Tryz.prog w=.ok (.enter 90 args) w:=by kernel_rfl
theorem Tryz.enter_prod (args:Array Value) (w:World):(callFunc 131 args).run Tryz.prog w=.ok (.enter 131 args) w:=by kernel_rfl
theorem Tryz.enter_sign (args:Array Value) (w:World):(callFunc 137 args).run Tryz.prog w=.ok (.enter 137 args) w:=by kernel_rfl
theorem Tryz.enter_and (args:Array Value) (w:World):(callFunc 78 args).run Tryz.prog w=.ok (.enter 78 args) w:=by kernel_rfl
set_option maxHeartbeats 4000000 in
theorem and_any (p z k:Nat) (one:Rd Ex) (hs:Shr one) (h1:RdC 90 p z k one):RdC 78 p z k (bAnd one):=by
  intro l w h
  have b0:Below w.heap.size w (w.alloc (.cells zExpr.toArray 44)):=ext_alloc (ext_refl _) _
  have b1:=ext_alloc (ext_refl (w.alloc (.cells zExpr.toArray 44))) (.cells #[.string ⟨#[97,110,100]⟩,.int .i64 15] 127)
  have N1:=BkA.new (w.alloc (.cells zExpr.toArray 44)) [.string ⟨#[97,110,100]⟩,.int .i64 15] 127
  have N0:=zH ((BkA.new w zExpr 44).on b1)
  have lp:=h.lt
  have hsz:(w.alloc (.cells zExpr.toArray 44)).heap.size=w.heap.size+1:=by simp
  rw[hsz] at N1
  have HOP:OpsM ((w.alloc (.cells zExpr.toArray 44)).alloc (.cells #[.string ⟨#[97,110,100]⟩,.int .i64 15] 127)) p (w.heap.size+1) opsAnd:=by
    refine⟨N1.lt,by omega,fun j s op hj=>?_⟩
    match j,hj with
    | 0,hj=>cases hj;exact⟨N1.c 0 _ rfl,N1.c 1 _ rfl⟩
    | j+1,hj=>cases hj
  have HC:=zH (chain_any 90 one opsAnd p z k (w.heap.size+1) 1 hs.keep Tryz.enter_not h1 (by decide) l _ ((h.below b0).below b1) HOP)
  have B1:=zH (b0.trans (b1.mono b0.size))
  have hmf:=Tryz.mkFunc
  clear N1 HOP h1 b0 b1 h
  cases hr:bAnd one l with
  | err er a =>
    have HR:=zH hr
    clear hr
    go_enter Tryz.func78,Tryz.ntmps78
    go_wp2_with fail
    refine HC.out.mono ?_
    intro e V hA
    obtain⟨rfl,hE,hO⟩:=hA.err HR.out
    go_wp2_with fail
    exact⟨rfl,Ans.mkErr rfl hE ((Out.of B1.out).trans hO)⟩
  | ok x r =>
    have HR:=zH hr
    clear hr
    go_enter Tryz.func78,Tryz.ntmps78
    go_wp2_with fail
    refine HC.out.mono ?_
    intro e V hA
    obtain⟨⟨v,rfl,⟨⟨fop,⟨fvk,fvn,fvs⟩,frel,fcol,fn,fs,fq,flen,fc⟩,rfl,hx⟩⟩,hP,hO⟩:=hA.ok HR.out
    have q:=N0.out.outs hO (by omega)
    obtain⟨d0,d1,d2,d3,d4,d5,d6,d7,d8⟩:=q.c9_ rfl
    have fz:=q.fz
    have HF:=zH (fin9 (w:=w) (gr:=w.heap.size) (Nat.le_refl _) lp hx (by simp) hP ((Out.of B1.out).trans hO.up))
    clear q hx hP hO hA
    go_wp2_with fail
    exact bodyPost_ret (v:=(Value.agg #[.int .i64 fop,.int .i64 fvk,.int .i64 fvn,.string fvs,.int .i64 frel,.int .i64 fcol,.int .i64 fn,.string fs,.slice fq flen fc])) (by simp[results,Tryz.results78,go_sem,d0,d1,d2,d3,d4,d5,d6,d7,d8]) rfl (Ans.mkOk rfl HF.out.1 HF.out.2.1 HF.out.2.2)
set_option maxHeartbeats 4000000 in
theorem prod_any (p z k:Nat) (one:Rd Ex) (hs:Shr one) (h1:RdC 137 p z k one):RdC 131 p z k (bProd one):=by
  intro l w h
  have b0:Below w.heap.size w (w.alloc (.cells zExpr.toArray 44)):=ext_alloc (ext_refl _) _
  have b1:=ext_alloc (ext_refl (w.alloc (.cells zExpr.toArray 44))) (.cells #[.string ⟨#[42]⟩,.int .i64 6,.string ⟨#[47]⟩,.int .i64 7] 127)
  have N1:=BkA.new (w.alloc (.cells zExpr.toArray 44)) [.string ⟨#[42]⟩,.int .i64 6,.string ⟨#[47]⟩,.int .i64 7] 127
  have N0:=zH ((BkA.new w zExpr 44).on b1)
  have lp:=h.lt
  have hsz:(w.alloc (.cells zExpr.toArray 44)).heap.size=w.heap.size+1:=by simp
  rw[hsz] at N1
  have HOP:OpsM ((w.alloc (.cells zExpr.toArray 44)).alloc (.cells #[.string ⟨#[42]⟩,.int .i64 6,.string ⟨#[47]⟩,.int .i64 7] 127)) p (w.heap.size+1) opsProd:=by
    refine⟨N1.lt,by omega,fun j s op hj=>?_⟩
    match j,hj with
    | 0,hj=>cases hj;exact⟨N1.c 0 _ rfl,N1.c 1 _ rfl⟩
    | 1,hj=>cases hj;exact⟨N1.c 2 _ rfl,N1.c 3 _ rfl⟩
    | j+2,hj=>cases hj
  have HC:=zH (chain_any 137 one opsProd p z k (w.heap.size+1) 2 hs.keep Tryz.enter_sign h1 (by decide) l _ ((h.below b0).below b1) HOP)
  have B1:=zH (b0.trans (b1.mono b0.size))
  have hmf:=Tryz.mkFunc
  clear N1 HOP h1 b0 b1 h
  cases hr:bProd one l with
  | err er a =>
    have HR:=zH hr
    clear hr
    go_enter Tryz.func131,Tryz.ntmps131
    go_wp2_with fail
    refine HC.out.mono ?_
    intro e V hA
    obtain⟨rfl,hE,hO⟩:=hA.err HR.out
    go_wp2_with fail
    exact⟨rfl,Ans.mkErr rfl hE ((Out.of B1.out).trans hO)⟩
  | ok x r =>
    have HR:=zH hr
    clear hr
    go_enter Tryz.func131,Tryz.ntmps131
    go_wp2_with fail
    refine HC.out.mono ?_
    intro e V hA
    obtain⟨⟨v,rfl,⟨⟨fop,⟨fvk,fvn,fvs⟩,frel,fcol,fn,fs,fq,flen,fc⟩,rfl,hx⟩⟩,hP,hO⟩:=hA.ok HR.out
    have q:=N0.out.outs hO (by omega)
    obtain⟨d0,d1,d2,d3,d4,d5,d6,d7,d8⟩:=q.c9_ rfl
    have fz:=q.fz
    have HF:=zH (fin9 (w:=w) (gr:=w.heap.size) (Nat.le_refl _) lp hx (by simp) hP ((Out.of B1.out).trans hO.up))
    clear q hx hP hO hA
    go_wp2_with fail
    exact bodyPost_ret (v:=(Value.agg #[.int .i64 fop,.int .i64 fvk,.int .i64 fvn,.string fvs,.int .i64 frel,.int .i64 fcol,.int .i64 fn,.string fs,.slice fq flen fc])) (by simp[results,Tryz.results131,go_sem,d0,d1,d2,d3,d4,d5,d6,d7,d8]) rfl (Ans.mkOk rfl HF.out.1 HF.out.2.1 HF.out.2.2)
set_option maxHeartbeats 4000000 in
theorem sum_any (p z k:Nat) (one:Rd Ex) (hs:Shr one) (h1:RdC 131 p z k one):RdC 120 p z k (chain one opsSum):=by
  intro l w h
  have b0:Below w.heap.size w (w.alloc (.cells zExpr.toArray 44)):=ext_alloc (ext_refl _) _
  have b1:=ext_alloc (ext_refl (w.alloc (.cells zExpr.toArray 44))) (.cells #[.string ⟨#[43]⟩,.int .i64 4,.string ⟨#[45]⟩,.int .i64 5] 127)
  have N1:=BkA.new (w.alloc (.cells zExpr.toArray 44)) [.string ⟨#[43]⟩,.int .i64 4,.string ⟨#[45]⟩,.int .i64 5] 127
  have N0:=zH ((BkA.new w zExpr 44).on b1)
  have lp:=h.lt
  have hsz:(w.alloc (.cells zExpr.toArray 44)).heap.size=w.heap.size+1:=by simp
  rw[hsz] at N1
  have HOP:OpsM ((w.alloc (.cells zExpr.toArray 44)).alloc (.cells #[.string ⟨#[43]⟩,.int .i64 4,.string ⟨#[45]⟩,.int .i64 5] 127)) p (w.heap.size+1) opsSum:=by
    refine⟨N1.lt,by omega,fun j s op hj=>?_⟩
    match j,hj with
    | 0,hj=>cases hj;exact⟨N1.c 0 _ rfl,N1.c 1 _ rfl⟩
    | 1,hj=>cases hj;exact⟨N1.c 2 _ rfl,N1.c 3 _ rfl⟩
    | j+2,hj=>cases hj
  have HC:=zH (chain_any 131 one opsSum p z k (w.heap.size+1) 2 hs.keep Tryz.enter_prod h1 (by decide) l _ ((h.below b0).below b1) HOP)
  have B1:=zH (b0.trans (b1.mono b0.size))
  have hmf:=Tryz.mkFunc
  clear N1 HOP h1 b0 b1 h
  cases hr:chain one opsSum l with
  | err er a =>
    have HR:=zH hr
    clear hr
    go_enter Tryz.func120,Tryz.ntmps120
    go_wp2_with fail
    refine HC.out.mono ?_
    intro e V hA
    obtain⟨rfl,hE,hO⟩:=hA.err HR.out
    go_wp2_with fail
    exact⟨rfl,Ans.mkErr rfl hE ((Out.of B1.out).trans hO)⟩
  | ok x r =>
    have HR:=zH hr
    clear hr
    go_enter Tryz.func120,Tryz.ntmps120
    go_wp2_with fail
    refine HC.out.mono ?_
    intro e V hA
    obtain⟨⟨v,rfl,⟨⟨fop,⟨fvk,fvn,fvs⟩,frel,fcol,fn,fs,fq,flen,fc⟩,rfl,hx⟩⟩,hP,hO⟩:=hA.ok HR.out
    have q:=N0.out.outs hO (by omega)
    obtain⟨d0,d1,d2,d3,d4,d5,d6,d7,d8⟩:=q.c9_ rfl
    have fz:=q.fz
    have HF:=zH (fin9 (w:=w) (gr:=w.heap.size) (Nat.le_refl _) lp hx (by simp) hP ((Out.of B1.out).trans hO.up))
    clear q hx hP hO hA
    go_wp2_with fail
    exact bodyPost_ret (v:=(Value.agg #[.int .i64 fop,.int .i64 fvk,.int .i64 fvn,.string fvs,.int .i64 frel,.int .i64 fcol,.int .i64 fn,.string fs,.slice fq flen fc])) (by simp[results,Tryz.results120,go_sem,d0,d1,d2,d3,d4,d5,d6,d7,d8]) rfl (Ans.mkOk rfl HF.out.1 HF.out.2.1 HF.out.2.2)
theorem one_ex {V Z M:World} {P:Nat→Prop} {g nb:Nat} {x:Ex} {re:RawE} {op:Int} (hx:ExMP V P x re.cells) (hn:P nb) (hg:∀ j,P j→j≠g) (hZ:Below V.heap.size V Z) (hZs:nb<Z.heap.size) (hZc:∀ (j:Nat) u,re.cells[j]?=some u→Z.cell? ⟨nb,j,none⟩=some u) (hM:Out (fun j=>j=g) Z M) :
    ExMP M P (exOne op x) (exCells op zeroVal 0 0 0 ⟨#[]⟩ (some ⟨nb,0,none⟩) 1 1):=by
  unfold exOne
  rw[ExMP.iff]
  refine⟨⟨rfl,rfl,Nat.zero_le _⟩,some ⟨nb,0,none⟩,1,rfl,Nat.le_refl _,ExLP.one (cs:=re.cells) ?_ (Nat.lt_of_lt_of_le hZs hM.size) hn fun j u hu=>(World.cell?_of_block (w:=Z) (hM.block nb hZs (hg nb hn))).trans (hZc j u hu)⟩
  exact ExMP.on (Nat.le_trans hZ.size hM.size) (fun j hj hl=>(hM.block j (Nat.lt_of_lt_of_le hl hZ.size) (hg j hj)).trans (hZ.block j hl)) (fun _ h _=>h) _ _ hx
theorem two_ex {V Z M:World} {P:Nat→Prop} {g nb:Nat} {x y:Ex} {re ry:RawE} {op:Int} (hx:ExMP V P x re.cells) (hy:ExMP V P y ry.cells) (hn:P nb) (hg:∀ j,P j→j≠g) (hZ:Below V.heap.size V Z) (hZs:nb<Z.heap.size) (hZc:∀ (j:Nat) u,(re.cells++ry.cells)[j]?=some u→Z.cell? ⟨nb,j,none⟩=some u) (hM:Out (fun j=>j=g) Z M) :
    ExMP M P (exTwo op x y) (exCells op zeroVal 0 0 0 ⟨#[]⟩ (some ⟨nb,0,none⟩) 2 2):=by
  unfold exTwo
  rw[ExMP.iff]
  refine⟨⟨rfl,rfl,Nat.zero_le _⟩,some ⟨nb,0,none⟩,2,rfl,Nat.le_refl _,ExLP.two (cs:=re.cells) (ds:=ry.cells) ?_ ?_ (Nat.lt_of_lt_of_le hZs hM.size) hn fun j u hu=>(World.cell?_of_block (w:=Z) (hM.block nb hZs (hg nb hn))).trans (hZc j u hu)⟩
  · exact ExMP.on (Nat.le_trans hZ.size hM.size) (fun j hj hl=>(hM.block j (Nat.lt_of_lt_of_le hl hZ.size) (hg j hj)).trans (hZ.block j hl)) (fun _ h _=>h) _ _ hx
  · exact ExMP.on (Nat.le_trans hZ.size hM.size) (fun j hj hl=>(hM.block j (Nat.lt_of_lt_of_le hl hZ.size) (hg j hj)).trans (hZ.block j hl)) (fun _ h _=>h) _ _ hy
theorem fin9g {w V:World} {P:Nat→Prop} {p z k gr b:Nat} {r:List Tok} {x:Ex} {re:RawE} (hgr:w.heap.size≤gr) (hp:p<w.heap.size) (hx:ExMP V P x re.cells) (hb:∀ j,P j→b≤j∧j≠gr) (hP:PSt V p z r k) (hO:Out (fun j=>j=p∨w.heap.size≤j) w V) :
    ExV b (((((((((V.setCell ⟨gr,0,none⟩ (.int .i64 re.op)).setCell ⟨gr,1,none⟩ (.int .i64 re.v.k)).setCell ⟨gr,2,none⟩ (.int .i64 re.v.n)).setCell ⟨gr,3,none⟩ (.string re.v.s)).setCell ⟨gr,4,none⟩ (.int .i64 re.rel)).setCell ⟨gr,5,none⟩ (.int .i64 re.col)).setCell ⟨gr,6,none⟩ (.int .i64 re.n)).setCell ⟨gr,7,none⟩ (.string re.s)).setCell ⟨gr,8,none⟩ (.slice re.q re.len re.c)) x (Value.agg #[.int .i64 re.op,.int .i64 re.v.k,.int .i64 re.v.n,.string re.v.s,.int .i64 re.rel,.int .i64 re.col,.int .i64 re.n,.string re.s,.slice re.q re.len re.c])∧PSt (((((((((V.setCell ⟨gr,0,none⟩ (.int .i64 re.op)).setCell ⟨gr,1,none⟩ (.int .i64 re.v.k)).setCell ⟨gr,2,none⟩ (.int .i64 re.v.n)).setCell ⟨gr,3,none⟩ (.string re.v.s)).setCell ⟨gr,4,none⟩ (.int .i64 re.rel)).setCell ⟨gr,5,none⟩ (.int .i64 re.col)).setCell ⟨gr,6,none⟩ (.int .i64 re.n)).setCell ⟨gr,7,none⟩ (.string re.s)).setCell ⟨gr,8,none⟩ (.slice re.q re.len re.c)) p z r k∧Out (fun j=>j=p) w (((((((((V.setCell ⟨gr,0,none⟩ (.int .i64 re.op)).setCell ⟨gr,1,none⟩ (.int .i64 re.v.k)).setCell ⟨gr,2,none⟩ (.int .i64 re.v.n)).setCell ⟨gr,3,none⟩ (.string re.v.s)).setCell ⟨gr,4,none⟩ (.int .i64 re.rel)).setCell ⟨gr,5,none⟩ (.int .i64 re.col)).setCell ⟨gr,6,none⟩ (.int .i64 re.n)).setCell ⟨gr,7,none⟩ (.string re.s)).setCell ⟨gr,8,none⟩ (.slice re.q re.len re.c)):=by
  have o:=out9 V gr (.int .i64 re.op) (.int .i64 re.v.k) (.int .i64 re.v.n) (.string re.v.s) (.int .i64 re.rel) (.int .i64 re.col) (.int .i64 re.n) (.string re.s) (.slice re.q re.len re.c)
  exact⟨⟨re,rfl,ExMP.on o.size (fun j hj hl=>o.block j hl (hb j hj).2) (fun j hj _=>(hb j hj).1) _ _ hx⟩,hP.outs o (fun j hj=>by omega),Out.down (hO.trans (o.mono fun j _ hj=>.inr (by omega)))⟩
set_option maxHeartbeats 4000000 in
theorem null_yy (p z k b:Nat) (tn t2:Tok) (r2:List Tok) (x:Ex) (re:RawE) (w:World) (h:PSt w p z (tn :: t2 :: r2) k) (hx:ExMP w (fun j=>b≤j) x re.cells) (hb:b≤w.heap.size) (hpb:p<b) (hn:hSees kwNot (tn :: t2 :: r2)=true) (hu:hSees kwNull (t2 :: r2)=true):Calls Tryz.prog 121 #[.pointer (some ⟨p,0,none⟩),(Value.agg #[.int .i64 re.op,.int .i64 re.v.k,.int .i64 re.v.n,.string re.v.s,.int .i64 re.rel,.int .i64 re.col,.int .i64 re.n,.string re.s,.slice re.q re.len re.c])] w (Ans (fun _=>ExV b) p z k (bNull z x (tn :: t2 :: r2)) w):=by
  have lp:=h.lt
  have HR:=zH (show bNull z x (tn :: t2 :: r2)=.ok (exOne 17 (exOne 18 x)) r2 by unfold bNull;rw[hn];rw[if_pos rfl];unfold need;exact if_pos hu)
  rw[HR.out]
  obtain⟨fop,⟨fvk,fvn,fvs⟩,frel,fcol,fn,fs,fq,flen,fc⟩:=re
  have b0:Below w.heap.size w (w.alloc (.cells #[.int .i64 fop,.int .i64 fvk,.int .i64 fvn,.string fvs,.int .i64 frel,.int .i64 fcol,.int .i64 fn,.string fs,.slice fq flen fc] 44)):=ext_alloc (ext_refl _) _
  have NB:=BkA.new w [.int .i64 fop,.int .i64 fvk,.int .i64 fvn,.string fvs,.int .i64 frel,.int .i64 fcol,.int .i64 fn,.string fs,.slice fq flen fc] 44
  obtain⟨W1,hW1⟩:∃ W1,W1=w.alloc (.cells #[.int .i64 fop,.int .i64 fvk,.int .i64 fvn,.string fvs,.int .i64 frel,.int .i64 fcol,.int .i64 fn,.string fs,.slice fq flen fc] 44):=⟨_,rfl⟩
  have HW1:=zH hW1
  rw[← hW1] at b0 NB
  have b1:Below W1.heap.size W1 (W1.alloc (.cells zExpr.toArray 44)):=ext_alloc (ext_refl _) _
  have NR:=BkA.new W1 zExpr 44
  have hz:W1.heap.size=w.heap.size+1:=by rw[hW1];simp
  rw[hz] at NR
  obtain⟨W2,hW2⟩:∃ W2,W2=W1.alloc (.cells zExpr.toArray 44):=⟨_,rfl⟩
  have HW2:=zH (show W2=(w.alloc (.cells #[.int .i64 fop,.int .i64 fvk,.int .i64 fvn,.string fvs,.int .i64 frel,.int .i64 fcol,.int .i64 fn,.string fs,.slice fq flen fc] 44)).alloc (.cells zExpr.toArray 44) by rw[hW2,hW1])
  rw[← hW2] at b1 NR
  have B2:=zH (b0.trans (b1.mono b0.size))
  have NB2:=zH (NB.on b1)
  have NR2:=zH NR
  have HP2:=zH ((h.below b0).below b1)
  have HX2:=zH (ExMP.on (Q:=fun j=>b≤j∧j≠w.heap.size∧j≠w.heap.size+1) B2.out.size (fun j _ hj=>B2.out.block j hj) (fun j hj hl=>⟨hj,by omega,by omega⟩) _ _ hx)
  have T:=zH (take_yes p z k tn (t2 :: r2) kwNot W2 HP2.out hn)
  have HU:=zH hu
  clear h hx b0 b1 NB NR hW1 hW2 HW1 hz hn hu
  go_enter Tryz.func121,Tryz.ntmps121
  go_upto_region 1 with fail
  rw[← HW2.out]
  clear HW2
  go_wp2_with fail
  refine T.out.mono ?_
  rintro e X ⟨rfl,hP,hO⟩
  have HPX:=zH hP
  have HOX:=zH hO
  clear hP hO T
  go_wp2_with fail
  refine (need_yes p z k t2 r2 kwNull X HPX.out HU.out).mono ?_
  rintro e Y ⟨rfl,hP2,hO2⟩
  have HPY:=zH hP2
  have HOY:=zH (HOX.out.trans hO2)
  have NBY:=zH (NB2.out.outs HOY.out (by omega))
  have NRY:=zH (NR2.out.outs HOY.out (by omega))
  have HXY:=zH (ExMP.on (Q:=fun j=>b≤j∧j≠w.heap.size∧j≠w.heap.size+1) HOY.out.size (fun j hj hl=>HOY.out.block j hl (fun (e:j=p)=>by have:=hj.1;omega)) (fun _ h _=>h) _ _ HX2.out)
  have PY:=zH ((Out.of (S:=fun j=>j=p∨w.heap.size≤j) B2.out).trans HOY.out.up)
  have hYs:w.heap.size+1<Y.heap.size:=NRY.out.lt
  obtain⟨c0,c1,c2,c3,c4,c5,c6,c7,c8⟩:=NBY.out.c9_ rfl
  have fz:=NBY.out.fz
  clear hP2 hO2
  go_wp2_with fail
  refine (apply_any 18 _ 1 1 _).mono ?_
  rintro e Z ⟨rfl,hb3⟩
  have NZ:=zH ((BkA.new Y [.int .i64 fop,.int .i64 fvk,.int .i64 fvn,.string fvs,.int .i64 frel,.int .i64 fcol,.int .i64 fn,.string fs,.slice fq flen fc] 44).on hb3)
  have b1:Below Y.heap.size Y (Y.alloc (.cells #[.int .i64 fop,.int .i64 fvk,.int .i64 fvn,.string fvs,.int .i64 frel,.int .i64 fcol,.int .i64 fn,.string fs,.slice fq flen fc] 44)):=ext_alloc (ext_refl _) _
  have HBZ:=zH (b1.trans (hb3.mono b1.size))
  have hZs:=HBZ.out.size
  have NBZ:=zH (NBY.out.on HBZ.out)
  have NRZ:=zH (NRY.out.on HBZ.out)
  clear hb3 b1 c0 c1 c2 c3 c4 c5 c6 c7 c8 fz
  obtain⟨c0,c1,c2,c3,c4,c5,c6,c7,c8⟩:=NBZ.out.c9_ rfl
  have fz:=NBZ.out.fz
  have ltb:=NBZ.out.lt
  go_upto_region 4 with fail
  have OM:=out9 Z w.heap.size (.int .i64 18) (.int .i64 0) (.int .i64 0) (.string ⟨#[]⟩) (.int .i64 0) (.int .i64 0) (.int .i64 0) (.string ⟨#[]⟩) (.slice (some ⟨Y.heap.size,0,none⟩) 1 1)
  have NM:=NBZ.out.set9 (.int .i64 18) (.int .i64 0) (.int .i64 0) (.string ⟨#[]⟩) (.int .i64 0) (.int .i64 0) (.int .i64 0) (.string ⟨#[]⟩) (.slice (some ⟨Y.heap.size,0,none⟩) 1 1)
  obtain⟨M,hM⟩:∃ M,M=(((((((((Z.setCell ⟨w.heap.size,0,none⟩ (.int .i64 18)).setCell ⟨w.heap.size,1,none⟩ (.int .i64 0)).setCell ⟨w.heap.size,2,none⟩ (.int .i64 0)).setCell ⟨w.heap.size,3,none⟩ (.string ⟨#[]⟩)).setCell ⟨w.heap.size,4,none⟩ (.int .i64 0)).setCell ⟨w.heap.size,5,none⟩ (.int .i64 0)).setCell ⟨w.heap.size,6,none⟩ (.int .i64 0)).setCell ⟨w.heap.size,7,none⟩ (.string ⟨#[]⟩)).setCell ⟨w.heap.size,8,none⟩ (.slice (some ⟨Y.heap.size,0,none⟩) 1 1)):=⟨_,rfl⟩
  rw[← hM] at OM NM
  have HM:=zH hM
  change Code.wp _ _ _ _ (((((((((Z.setCell ⟨w.heap.size,0,none⟩ (.int .i64 18)).setCell ⟨w.heap.size,1,none⟩ (.int .i64 0)).setCell ⟨w.heap.size,2,none⟩ (.int .i64 0)).setCell ⟨w.heap.size,3,none⟩ (.string ⟨#[]⟩)).setCell ⟨w.heap.size,4,none⟩ (.int .i64 0)).setCell ⟨w.heap.size,5,none⟩ (.int .i64 0)).setCell ⟨w.heap.size,6,none⟩ (.int .i64 0)).setCell ⟨w.heap.size,7,none⟩ (.string ⟨#[]⟩)).setCell ⟨w.heap.size,8,none⟩ (.slice (some ⟨Y.heap.size,0,none⟩) 1 1))
  rw[← HM.out]
  clear HM hM c0 c1 c2 c3 c4 c5 c6 c7 c8 fz ltb
  have HXM:=zH (one_ex (P:=fun j=>b≤j∧j≠w.heap.size∧j≠w.heap.size+1) (op:=18) HXY.out ⟨by omega,by omega,by omega⟩ (fun j hj=>hj.2.1) HBZ.out NZ.out.lt NZ.out.c OM)
  have HPM:=zH ((HPY.out.below HBZ.out).outs OM (fun j hj=>by omega))
  have PM:=zH ((PY.out.trans (Out.of HBZ.out)).trans (OM.mono fun j _ hj=>.inr (by omega)))
  have NRM:=zH (NRZ.out.outs OM (by omega))
  have hMs:=OM.size
  have NM2:=zH NM
  obtain⟨c0,c1,c2,c3,c4,c5,c6,c7,c8⟩:=NM.c9_ rfl
  have fz:=NM.fz
  obtain⟨d0,d1,d2,d3,d4,d5,d6,d7,d8⟩:=NRM.out.c9_ rfl
  have fzr:=NRM.out.fz
  have ltm:=NM.lt
  have ltr:=NRM.out.lt
  clear OM NM
  go_wp2_with fail
  refine (apply_any 17 _ 1 1 _).mono ?_
  rintro e Z2 ⟨rfl,hb3⟩
  have NZ2:=zH ((BkA.new M (exCells 18 zeroVal 0 0 0 ⟨#[]⟩ (some ⟨Y.heap.size,0,none⟩) 1 1) 44).on hb3)
  have b1:Below M.heap.size M (M.alloc (.cells (exCells 18 zeroVal 0 0 0 ⟨#[]⟩ (some ⟨Y.heap.size,0,none⟩) 1 1).toArray 44)):=ext_alloc (ext_refl _) _
  have HBZ2:=zH (b1.trans (hb3.mono b1.size))
  have NRZ2:=zH (NRM.out.on HBZ2.out)
  clear hb3 b1 d0 d1 d2 d3 d4 d5 d6 d7 d8 fzr c0 c1 c2 c3 c4 c5 c6 c7 c8 fz
  obtain⟨d0,d1,d2,d3,d4,d5,d6,d7,d8⟩:=NRZ2.out.c9_ rfl
  have fzr:=NRZ2.out.fz
  have HXZ:=zH (one_ex (P:=fun j=>b≤j∧j≠w.heap.size∧j≠w.heap.size+1) (g:=w.heap.size) (re:=⟨18,zeroVal,0,0,0,⟨#[]⟩,some ⟨Y.heap.size,0,none⟩,1,1⟩) (op:=17) (nb:=M.heap.size) (M:=Z2) HXM.out ⟨by omega,by omega,by omega⟩ (fun j hj=>hj.2.1) HBZ2.out NZ2.out.lt NZ2.out.c (Out.refl _ _))
  have HF:=zH (fin9g (w:=w) (b:=b) (gr:=w.heap.size+1) (re:=⟨17,zeroVal,0,0,0,⟨#[]⟩,some ⟨M.heap.size,0,none⟩,1,1⟩) (by omega) lp HXZ.out (fun j hj=>⟨hj.1,hj.2.2⟩) (HPM.out.below HBZ2.out) (PM.out.trans (Out.of HBZ2.out)))
  go_wp2_with fail
  exact bodyPost_ret (v:=.agg (exCells 17 zeroVal 0 0 0 ⟨#[]⟩ (some ⟨M.heap.size,0,none⟩) 1 1).toArray) (by simp[results,Tryz.results121,go_sem,d0,d1,d2,d3,d4,d5,d6,d7,d8,zeroVal]) rfl (Ans.mkOk rfl HF.out.1 HF.out.2.1 HF.out.2.2)
set_option maxHeartbeats 4000000 in
theorem null_yn (p z k b:Nat) (tn:Tok) (rn:List Tok) (x:Ex) (re:RawE) (w:World) (h:PSt w p z (tn :: rn) k) (hx:ExMP w (fun j=>b≤j) x re.cells) (hb:b≤w.heap.size) (hpb:p<b) (hn:hSees kwNot (tn :: rn)=true) (hu:hSees kwNull rn=false):Calls Tryz.prog 121 #[.pointer (some ⟨p,0,none⟩),(Value.agg #[.int .i64 re.op,.int .i64 re.v.k,.int .i64 re.v.n,.string re.v.s,.int .i64 re.rel,.int .i64 re.col,.int .i64 re.n,.string re.s,.slice re.q re.len re.c])] w (Ans (fun _=>ExV b) p z k (bNull z x (tn :: rn)) w):=by
  have lp:=h.lt
  have HR:=zH (show bNull z x (tn :: rn)=.err 7 (hAt z rn) by unfold bNull;rw[hn];rw[if_pos rfl];unfold need;exact if_neg (fun e=>by have e:hSees kwNull rn=true:=e;rw[hu] at e;cases e))
  rw[HR.out]
  obtain⟨fop,⟨fvk,fvn,fvs⟩,frel,fcol,fn,fs,fq,flen,fc⟩:=re
  have b0:Below w.heap.size w (w.alloc (.cells #[.int .i64 fop,.int .i64 fvk,.int .i64 fvn,.string fvs,.int .i64 frel,.int .i64 fcol,.int .i64 fn,.string fs,.slice fq flen fc] 44)):=ext_alloc (ext_refl _) _
  have NB:=BkA.new w [.int .i64 fop,.int .i64 fvk,.int .i64 fvn,.string fvs,.int .i64 frel,.int .i64 fcol,.int .i64 fn,.string fs,.slice fq flen fc] 44
  obtain⟨W1,hW1⟩:∃ W1,W1=w.alloc (.cells #[.int .i64 fop,.int .i64 fvk,.int .i64 fvn,.string fvs,.int .i64 frel,.int .i64 fcol,.int .i64 fn,.string fs,.slice fq flen fc] 44):=⟨_,rfl⟩
  have HW1:=zH hW1
  rw[← hW1] at b0 NB
  have b1:Below W1.heap.size W1 (W1.alloc (.cells zExpr.toArray 44)):=ext_alloc (ext_refl _) _
  have NR:=BkA.new W1 zExpr 44
  have hz:W1.heap.size=w.heap.size+1:=by rw[hW1];simp
  rw[hz] at NR
  obtain⟨W2,hW2⟩:∃ W2,W2=W1.alloc (.cells zExpr.toArray 44):=⟨_,rfl⟩
  have HW2:=zH (show W2=(w.alloc (.cells #[.int .i64 fop,.int .i64 fvk,.int .i64 fvn,.string fvs,.int .i64 frel,.int .i64 fcol,.int .i64 fn,.string fs,.slice fq flen fc] 44)).alloc (.cells zExpr.toArray 44) by rw[hW2,hW1])
  rw[← hW2] at b1 NR
  have B2:=zH (b0.trans (b1.mono b0.size))
  have NB2:=zH (NB.on b1)
  have NR2:=zH NR
  have HP2:=zH ((h.below b0).below b1)
  have HX2:=zH (ExMP.on (Q:=fun j=>b≤j∧j≠w.heap.size∧j≠w.heap.size+1) B2.out.size (fun j _ hj=>B2.out.block j hj) (fun j hj hl=>⟨hj,by omega,by omega⟩) _ _ hx)
  have T:=zH (take_yes p z k tn rn kwNot W2 HP2.out hn)
  have HU:=zH hu
  clear h hx b0 b1 NB NR hW1 hW2 HW1 hz hn hu
  go_enter Tryz.func121,Tryz.ntmps121
  go_upto_region 1 with fail
  rw[← HW2.out]
  clear HW2
  go_wp2_with fail
  refine T.out.mono ?_
  rintro e X ⟨rfl,hP,hO⟩
  have HPX:=zH hP
  have HOX:=zH hO
  clear hP hO T
  go_wp2_with fail
  refine (need_no p z k rn kwNull X HPX.out HU.out).mono ?_
  rintro e Y ⟨rfl,hE,hO2⟩
  go_wp2_with fail
  exact⟨rfl,rfl,hE,(Out.of B2.out).trans (HOX.out.trans hO2)⟩
set_option maxHeartbeats 4000000 in
theorem null_ny (p z k b:Nat) (t2:Tok) (r2:List Tok) (x:Ex) (re:RawE) (w:World) (h:PSt w p z (t2 :: r2) k) (hx:ExMP w (fun j=>b≤j) x re.cells) (hb:b≤w.heap.size) (hpb:p<b) (hn:hSees kwNot (t2 :: r2)=false) (hu:hSees kwNull (t2 :: r2)=true):Calls Tryz.prog 121 #[.pointer (some ⟨p,0,none⟩),(Value.agg #[.int .i64 re.op,.int .i64 re.v.k,.int .i64 re.v.n,.string re.v.s,.int .i64 re.rel,.int .i64 re.col,.int .i64 re.n,.string re.s,.slice re.q re.len re.c])] w (Ans (fun _=>ExV b) p z k (bNull z x (t2 :: r2)) w):=by
  have lp:=h.lt
  have HR:=zH (show bNull z x (t2 :: r2)=.ok (exOne 18 x) r2 by unfold bNull;rw[hn];rw[if_neg (by decide)];unfold need;exact if_pos hu)
  rw[HR.out]
  obtain⟨fop,⟨fvk,fvn,fvs⟩,frel,fcol,fn,fs,fq,flen,fc⟩:=re
  have b0:Below w.heap.size w (w.alloc (.cells #[.int .i64 fop,.int .i64 fvk,.int .i64 fvn,.string fvs,.int .i64 frel,.int .i64 fcol,.int .i64 fn,.string fs,.slice fq flen fc] 44)):=ext_alloc (ext_refl _) _
  have NB:=BkA.new w [.int .i64 fop,.int .i64 fvk,.int .i64 fvn,.string fvs,.int .i64 frel,.int .i64 fcol,.int .i64 fn,.string fs,.slice fq flen fc] 44
  obtain⟨W1,hW1⟩:∃ W1,W1=w.alloc (.cells #[.int .i64 fop,.int .i64 fvk,.int .i64 fvn,.string fvs,.int .i64 frel,.int .i64 fcol,.int .i64 fn,.string fs,.slice fq flen fc] 44):=⟨_,rfl⟩
  have HW1:=zH hW1
  rw[← hW1] at b0 NB
  have b1:Below W1.heap.size W1 (W1.alloc (.cells zExpr.toArray 44)):=ext_alloc (ext_refl _) _
  have NR:=BkA.new W1 zExpr 44
  have hz:W1.heap.size=w.heap.size+1:=by rw[hW1];simp
  rw[hz] at NR
  obtain⟨W2,hW2⟩:∃ W2,W2=W1.alloc (.cells zExpr.toArray 44):=⟨_,rfl⟩
  have HW2:=zH (show W2=(w.alloc (.cells #[.int .i64 fop,.int .i64 fvk,.int .i64 fvn,.string fvs,.int .i64 frel,.int .i64 fcol,.int .i64 fn,.string fs,.slice fq flen fc] 44)).alloc (.cells zExpr.toArray 44) by rw[hW2,hW1])
  rw[← hW2] at b1 NR
  have B2:=zH (b0.trans (b1.mono b0.size))
  have NB2:=zH (NB.on b1)
  have NR2:=zH NR
  have HP2:=zH ((h.below b0).below b1)
  have HX2:=zH (ExMP.on (Q:=fun j=>b≤j∧j≠w.heap.size∧j≠w.heap.size+1) B2.out.size (fun j _ hj=>B2.out.block j hj) (fun j hj hl=>⟨hj,by omega,by omega⟩) _ _ hx)
  have T:=zH (take_no p z k (t2 :: r2) kwNot W2 HP2.out hn)
  have HU:=zH hu
  clear h hx b0 b1 NB NR hW1 hW2 HW1 hz hn hu
  go_enter Tryz.func121,Tryz.ntmps121
  go_upto_region 1 with fail
  rw[← HW2.out]
  clear HW2
  go_wp2_with fail
  refine T.out.mono ?_
  rintro e X ⟨rfl,hbb⟩
  have HPX:=zH (HP2.out.below hbb)
  have HOX:=zH (Out.of (S:=fun j=>j=p) hbb)
  clear hbb T
  go_wp2_with fail
  refine (need_yes p z k t2 r2 kwNull X HPX.out HU.out).mono ?_
  rintro e Y ⟨rfl,hP2,hO2⟩
  have HPY:=zH hP2
  have HOY:=zH (HOX.out.trans hO2)
  have NBY:=zH (NB2.out.outs HOY.out (by omega))
  have NRY:=zH (NR2.out.outs HOY.out (by omega))
  have HXY:=zH (ExMP.on (Q:=fun j=>b≤j∧j≠w.heap.size∧j≠w.heap.size+1) HOY.out.size (fun j hj hl=>HOY.out.block j hl (fun (e:j=p)=>by have:=hj.1;omega)) (fun _ h _=>h) _ _ HX2.out)
  have PY:=zH ((Out.of (S:=fun j=>j=p∨w.heap.size≤j) B2.out).trans HOY.out.up)
  have hYs:w.heap.size+1<Y.heap.size:=NRY.out.lt
  obtain⟨c0,c1,c2,c3,c4,c5,c6,c7,c8⟩:=NBY.out.c9_ rfl
  have fz:=NBY.out.fz
  clear hP2 hO2
  go_wp2_with fail
  refine (apply_any 18 _ 1 1 _).mono ?_
  rintro e Z ⟨rfl,hb3⟩
  have NZ:=zH ((BkA.new Y [.int .i64 fop,.int .i64 fvk,.int .i64 fvn,.string fvs,.int .i64 frel,.int .i64 fcol,.int .i64 fn,.string fs,.slice fq flen fc] 44).on hb3)
  have b1:Below Y.heap.size Y (Y.alloc (.cells #[.int .i64 fop,.int .i64 fvk,.int .i64 fvn,.string fvs,.int .i64 frel,.int .i64 fcol,.int .i64 fn,.string fs,.slice fq flen fc] 44)):=ext_alloc (ext_refl _) _
  have HBZ:=zH (b1.trans (hb3.mono b1.size))
  have hZs:=HBZ.out.size
  have NBZ:=zH (NBY.out.on HBZ.out)
  have NRZ:=zH (NRY.out.on HBZ.out)
  clear hb3 b1 c0 c1 c2 c3 c4 c5 c6 c7 c8 fz
  obtain⟨c0,c1,c2,c3,c4,c5,c6,c7,c8⟩:=NBZ.out.c9_ rfl
  have fz:=NBZ.out.fz
  have ltb:=NBZ.out.lt
  go_upto_region 4 with fail
  have OM:=out9 Z w.heap.size (.int .i64 18) (.int .i64 0) (.int .i64 0) (.string ⟨#[]⟩) (.int .i64 0) (.int .i64 0) (.int .i64 0) (.string ⟨#[]⟩) (.slice (some ⟨Y.heap.size,0,none⟩) 1 1)
  have NM:=NBZ.out.set9 (.int .i64 18) (.int .i64 0) (.int .i64 0) (.string ⟨#[]⟩) (.int .i64 0) (.int .i64 0) (.int .i64 0) (.string ⟨#[]⟩) (.slice (some ⟨Y.heap.size,0,none⟩) 1 1)
  obtain⟨M,hM⟩:∃ M,M=(((((((((Z.setCell ⟨w.heap.size,0,none⟩ (.int .i64 18)).setCell ⟨w.heap.size,1,none⟩ (.int .i64 0)).setCell ⟨w.heap.size,2,none⟩ (.int .i64 0)).setCell ⟨w.heap.size,3,none⟩ (.string ⟨#[]⟩)).setCell ⟨w.heap.size,4,none⟩ (.int .i64 0)).setCell ⟨w.heap.size,5,none⟩ (.int .i64 0)).setCell ⟨w.heap.size,6,none⟩ (.int .i64 0)).setCell ⟨w.heap.size,7,none⟩ (.string ⟨#[]⟩)).setCell ⟨w.heap.size,8,none⟩ (.slice (some ⟨Y.heap.size,0,none⟩) 1 1)):=⟨_,rfl⟩
  rw[← hM] at OM NM
  have HM:=zH hM
  change Code.wp _ _ _ _ (((((((((Z.setCell ⟨w.heap.size,0,none⟩ (.int .i64 18)).setCell ⟨w.heap.size,1,none⟩ (.int .i64 0)).setCell ⟨w.heap.size,2,none⟩ (.int .i64 0)).setCell ⟨w.heap.size,3,none⟩ (.string ⟨#[]⟩)).setCell ⟨w.heap.size,4,none⟩ (.int .i64 0)).setCell ⟨w.heap.size,5,none⟩ (.int .i64 0)).setCell ⟨w.heap.size,6,none⟩ (.int .i64 0)).setCell ⟨w.heap.size,7,none⟩ (.string ⟨#[]⟩)).setCell ⟨w.heap.size,8,none⟩ (.slice (some ⟨Y.heap.size,0,none⟩) 1 1))
  rw[← HM.out]
  clear HM hM c0 c1 c2 c3 c4 c5 c6 c7 c8 fz ltb
  have HXM:=zH (one_ex (P:=fun j=>b≤j∧j≠w.heap.size∧j≠w.heap.size+1) (op:=18) HXY.out ⟨by omega,by omega,by omega⟩ (fun j hj=>hj.2.1) HBZ.out NZ.out.lt NZ.out.c OM)
  have HPM:=zH ((HPY.out.below HBZ.out).outs OM (fun j hj=>by omega))
  have PM:=zH ((PY.out.trans (Out.of HBZ.out)).trans (OM.mono fun j _ hj=>.inr (by omega)))
  have NRM:=zH (NRZ.out.outs OM (by omega))
  have hMs:=OM.size
  have NM2:=zH NM
  obtain⟨c0,c1,c2,c3,c4,c5,c6,c7,c8⟩:=NM.c9_ rfl
  have fz:=NM.fz
  obtain⟨d0,d1,d2,d3,d4,d5,d6,d7,d8⟩:=NRM.out.c9_ rfl
  have fzr:=NRM.out.fz
  have ltm:=NM.lt
  have ltr:=NRM.out.lt
  clear OM NM
  have HF:=zH (fin9g (w:=w) (b:=b) (gr:=w.heap.size+1) (re:=⟨18,zeroVal,0,0,0,⟨#[]⟩,some ⟨Y.heap.size,0,none⟩,1,1⟩) (by omega) lp HXM.out (fun j hj=>⟨hj.1,hj.2.2⟩) HPM.out PM.out)
  go_wp2_with fail
  exact bodyPost_ret (v:=.agg (exCells 18 zeroVal 0 0 0 ⟨#[]⟩ (some ⟨Y.heap.size,0,none⟩) 1 1).toArray) (by simp[results,Tryz.results121,go_sem,d0,d1,d2,d3,d4,d5,d6,d7,d8,zeroVal]) rfl (Ans.mkOk rfl HF.out.1 HF.out.2.1 HF.out.2.2)
set_option maxHeartbeats 4000000 in
theorem null_nn (p z k b:Nat) (l:List Tok) (x:Ex) (re:RawE) (w:World) (h:PSt w p z l k) (hx:ExMP w (fun j=>b≤j) x re.cells) (hb:b≤w.heap.size) (hpb:p<b) (hn:hSees kwNot l=false) (hu:hSees kwNull l=false):Calls Tryz.prog 121 #[.pointer (some ⟨p,0,none⟩),(Value.agg #[.int .i64 re.op,.int .i64 re.v.k,.int .i64 re.v.n,.string re.v.s,.int .i64 re.rel,.int .i64 re.col,.int .i64 re.n,.string re.s,.slice re.q re.len re.c])] w (Ans (fun _=>ExV b) p z k (bNull z x l) w):=by
  have lp:=h.lt
  have HR:=zH (show bNull z x l=.err 7 (hAt z l) by unfold bNull;rw[hn];rw[if_neg (by decide)];unfold need;exact if_neg (fun e=>by have e:hSees kwNull l=true:=e;rw[hu] at e;cases e))
  rw[HR.out]
  obtain⟨fop,⟨fvk,fvn,fvs⟩,frel,fcol,fn,fs,fq,flen,fc⟩:=re
  have b0:Below w.heap.size w (w.alloc (.cells #[.int .i64 fop,.int .i64 fvk,.int .i64 fvn,.string fvs,.int .i64 frel,.int .i64 fcol,.int .i64 fn,.string fs,.slice fq flen fc] 44)):=ext_alloc (ext_refl _) _
  have NB:=BkA.new w [.int .i64 fop,.int .i64 fvk,.int .i64 fvn,.string fvs,.int .i64 frel,.int .i64 fcol,.int .i64 fn,.string fs,.slice fq flen fc] 44
  obtain⟨W1,hW1⟩:∃ W1,W1=w.alloc (.cells #[.int .i64 fop,.int .i64 fvk,.int .i64 fvn,.string fvs,.int .i64 frel,.int .i64 fcol,.int .i64 fn,.string fs,.slice fq flen fc] 44):=⟨_,rfl⟩
  have HW1:=zH hW1
  rw[← hW1] at b0 NB
  have b1:Below W1.heap.size W1 (W1.alloc (.cells zExpr.toArray 44)):=ext_alloc (ext_refl _) _
  have NR:=BkA.new W1 zExpr 44
  have hz:W1.heap.size=w.heap.size+1:=by rw[hW1];simp
  rw[hz] at NR
  obtain⟨W2,hW2⟩:∃ W2,W2=W1.alloc (.cells zExpr.toArray 44):=⟨_,rfl⟩
  have HW2:=zH (show W2=(w.alloc (.cells #[.int .i64 fop,.int .i64 fvk,.int .i64 fvn,.string fvs,.int .i64 frel,.int .i64 fcol,.int .i64 fn,.string fs,.slice fq flen fc] 44)).alloc (.cells zExpr.toArray 44) by rw[hW2,hW1])
  rw[← hW2] at b1 NR
  have B2:=zH (b0.trans (b1.mono b0.size))
  have NB2:=zH (NB.on b1)
  have NR2:=zH NR
  have HP2:=zH ((h.below b0).below b1)
  have HX2:=zH (ExMP.on (Q:=fun j=>b≤j∧j≠w.heap.size∧j≠w.heap.size+1) B2.out.size (fun j _ hj=>B2.out.block j hj) (fun j hj hl=>⟨hj,by omega,by omega⟩) _ _ hx)
  have T:=zH (take_no p z k l kwNot W2 HP2.out hn)
  have HU:=zH hu
  clear h hx b0 b1 NB NR hW1 hW2 HW1 hz hn hu
  go_enter Tryz.func121,Tryz.ntmps121
  go_upto_region 1 with fail
  rw[← HW2.out]
  clear HW2
  go_wp2_with fail
  refine T.out.mono ?_
  rintro e X ⟨rfl,hbb⟩
  have HPX:=zH (HP2.out.below hbb)
  have HOX:=zH (Out.of (S:=fun j=>j=p) hbb)
  clear hbb T
  go_wp2_with fail
  refine (need_no p z k l kwNull X HPX.out HU.out).mono ?_
  rintro e Y ⟨rfl,hE,hO2⟩
  go_wp2_with fail
  exact⟨rfl,rfl,hE,(Out.of B2.out).trans (HOX.out.trans hO2)⟩
theorem bsB_le (l:Bs) (h:l.length≤40):(bsB l).size≤maxLen:=by
  show l.toArray.size≤maxLen
  have:l.toArray.size=l.length:=by simp
  unfold maxLen
  omega
theorem leaf_ex (w:World) (P:Nat→Prop) (op:Int) (v:Val) (n:Int) (s:ByteArray) (hv:okVal v):ExMP w P (.mk op v 0 0 n s []) (exCells op v 0 0 n s none 0 0):=by
  rw[ExMP.iff]
  exact⟨hv,none,0,rfl,Nat.le_refl _,by rw[ExLP];trivial⟩
theorem okVal_txt {s:Bs} (h:s.length≤40):okVal (txtV s):=⟨rfl,rfl,bsB_le s h⟩
theorem inR_nat {n:Nat} (h:n≤9223372036854775807):inR (n:Int)=true:=by
  unfold inR
  simp
  omega
theorem okVal_zer:okVal zeroVal:=⟨rfl,rfl,Nat.zero_le _⟩
theorem hd_wf {z:Nat} {l:List Tok} (h:Toks z l):(hd z l).n≤9223372036854775807∧(hd z l).s.length≤40:=by
  cases l with
  | nil=>exact⟨Nat.zero_le _,Nat.zero_le _⟩
  | cons t r=>exact⟨(h.wf t (List.mem_cons_self ..)).num,(h.wf t (List.mem_cons_self ..)).text⟩
set_option maxHeartbeats 4000000 in
theorem atom_num (p z k:Nat) (orr:Rd Ex) (t:Tok) (r:List Tok) (w:World) (h:PSt w p z (t :: r) k) (hk:t.kd=3):Calls Tryz.prog 143 #[.pointer (some ⟨p,0,none⟩)] w (Ans ExV p z k (bAtom z orr (t :: r)) w):=by
  have lp:=h.lt
  have htk:=h.tk
  have b0:Below w.heap.size w (w.alloc (.cells zExpr.toArray 44)):=ext_alloc (ext_refl _) _
  have N0:=zH (BkA.new w zExpr 44)
  have HP0:=zH (h.below b0)
  have B0:=zH b0
  have HR:bAtom z orr (t :: r)=.ok (exKon ⟨1,t.n,⟨#[]⟩⟩) r:=by rw[bAtom];simp[hk]
  rw[HR]
  have hwf:=hd_wf htk
  obtain⟨kd,n,a,s⟩:=t
  simp only at hk
  subst hk
  simp only[hd] at hwf
  clear HR htk
  have H:=zH (look_any p z k (⟨3,n,a,s⟩ :: r) _ HP0.out)
  simp only[hd] at H
  clear h b0
  go_enter Tryz.func143,Tryz.ntmps143
  go_wp2_with fail
  refine H.out.mono ?_
  rintro e V ⟨rfl,hb⟩
  have HPV:=zH (HP0.out.below hb)
  have BV:=zH (B0.out.trans (hb.mono B0.out.size))
  have NV:=zH (N0.out.on hb)
  have hfk:=fun w=>Tryz.tokKind 3 n a (bsB s) w
  have hfn:=fun w=>Tryz.tokN 3 n a (bsB s) w
  have hwV:w.heap.size<V.heap.size:=NV.out.lt
  clear hb H
  have HRD:=zH (read_yes p z k ⟨3,n,a,s⟩ r 3 V HPV.out rfl)
  go_wp2_with fail
  refine HRD.out.mono ?_
  rintro e X ⟨rfl,hP,hO⟩
  have HPX:=zH hP
  have NX:=zH (NV.out.outs hO (by omega))
  have PX:=zH ((Out.of (S:=fun j=>j=p∨w.heap.size≤j) BV.out).trans hO.up)
  clear hP hO
  go_wp2_with fail
  refine (constant_any ⟨1,n,⟨#[]⟩⟩ X).mono ?_
  rintro e Y ⟨rfl,hb⟩
  have HPY:=zH (HPX.out.below hb)
  have NY:=zH (NX.out.on hb)
  have PY:=zH (PX.out.trans (Out.of hb))
  clear hb
  obtain⟨d0,d1,d2,d3,d4,d5,d6,d7,d8⟩:=NY.out.c9_ rfl
  have fzr:=NY.out.fz
  have ltr:=NY.out.lt
  have HF:=zH (fin9g (w:=w) (V:=Y) (P:=fun _=>False) (b:=w.heap.size) (gr:=w.heap.size) (re:=⟨1,⟨1,n,⟨#[]⟩⟩,0,0,0,⟨#[]⟩,none,0,0⟩) (Nat.le_refl _) lp (leaf_ex _ _ 1 ⟨1,n,⟨#[]⟩⟩ 0 ⟨#[]⟩ ⟨rfl,inR_nat hwf.1,Nat.zero_le _⟩) (fun j hj=>hj.elim) HPY.out PY.out)
  go_wp2_with fail
  exact bodyPost_ret (v:=(Value.agg #[.int .i64 1,.int .i64 1,.int .i64 (n:Int),.string ⟨#[]⟩,.int .i64 0,.int .i64 0,.int .i64 0,.string ⟨#[]⟩,.slice none 0 0])) (by simp[results,Tryz.results143,go_sem,d0,d1,d2,d3,d4,d5,d6,d7,d8]) rfl (Ans.mkOk rfl HF.out.1 HF.out.2.1 HF.out.2.2)
set_option maxHeartbeats 4000000 in
theorem atom_text (p z k:Nat) (orr:Rd Ex) (t:Tok) (r:List Tok) (w:World) (h:PSt w p z (t :: r) k) (hk:t.kd=4):Calls Tryz.prog 143 #[.pointer (some ⟨p,0,none⟩)] w (Ans ExV p z k (bAtom z orr (t :: r)) w):=by
  have lp:=h.lt
  have htk:=h.tk
  have b0:Below w.heap.size w (w.alloc (.cells zExpr.toArray 44)):=ext_alloc (ext_refl _) _
  have N0:=zH (BkA.new w zExpr 44)
  have HP0:=zH (h.below b0)
  have B0:=zH b0
  have HR:bAtom z orr (t :: r)=.ok (exKon (txtV t.s)) r:=by rw[bAtom];simp[hk]
  rw[HR]
  have hwf:=hd_wf htk
  obtain⟨kd,n,a,s⟩:=t
  simp only at hk
  subst hk
  simp only[hd] at hwf
  clear HR htk
  have H:=zH (look_any p z k (⟨4,n,a,s⟩ :: r) _ HP0.out)
  simp only[hd] at H
  clear h b0
  go_enter Tryz.func143,Tryz.ntmps143
  go_wp2_with fail
  refine H.out.mono ?_
  rintro e V ⟨rfl,hb⟩
  have HPV:=zH (HP0.out.below hb)
  have BV:=zH (B0.out.trans (hb.mono B0.out.size))
  have NV:=zH (N0.out.on hb)
  have hfk:=fun w=>Tryz.tokKind 4 n a (bsB s) w
  have hfn:=fun w=>Tryz.tokN 4 n a (bsB s) w
  have hwV:w.heap.size<V.heap.size:=NV.out.lt
  clear hb H
  have HRD:=zH (read_yes p z k ⟨4,n,a,s⟩ r 4 V HPV.out rfl)
  go_wp2_with fail
  refine HRD.out.mono ?_
  rintro e X ⟨rfl,hP,hO⟩
  have HPX:=zH hP
  have NX:=zH (NV.out.outs hO (by omega))
  have PX:=zH ((Out.of (S:=fun j=>j=p∨w.heap.size≤j) BV.out).trans hO.up)
  clear hP hO
  go_wp2_with fail
  refine (text_any ⟨4,n,a,s⟩ X).mono ?_
  rintro e X2 ⟨rfl,hb2⟩
  have HPX2:=zH (HPX.out.below hb2)
  have NX2:=zH (NX.out.on hb2)
  have PX2:=zH (PX.out.trans (Out.of hb2))
  clear hb2
  go_wp2_with fail
  refine (constant_any ⟨3,0,bsB s⟩ X2).mono ?_
  rintro e Y ⟨rfl,hb⟩
  have HPY:=zH (HPX2.out.below hb)
  have NY:=zH (NX2.out.on hb)
  have PY:=zH (PX2.out.trans (Out.of hb))
  clear hb
  obtain⟨d0,d1,d2,d3,d4,d5,d6,d7,d8⟩:=NY.out.c9_ rfl
  have fzr:=NY.out.fz
  have ltr:=NY.out.lt
  have HF:=zH (fin9g (w:=w) (V:=Y) (P:=fun _=>False) (b:=w.heap.size) (gr:=w.heap.size) (re:=⟨1,⟨3,0,bsB s⟩,0,0,0,⟨#[]⟩,none,0,0⟩) (Nat.le_refl _) lp (leaf_ex _ _ 1 ⟨3,0,bsB s⟩ 0 ⟨#[]⟩ (okVal_txt hwf.2)) (fun j hj=>hj.elim) HPY.out PY.out)
  go_wp2_with fail
  exact bodyPost_ret (v:=(Value.agg #[.int .i64 1,.int .i64 3,.int .i64 0,.string (bsB s),.int .i64 0,.int .i64 0,.int .i64 0,.string ⟨#[]⟩,.slice none 0 0])) (by simp[results,Tryz.results143,go_sem,d0,d1,d2,d3,d4,d5,d6,d7,d8]) rfl (Ans.mkOk rfl HF.out.1 HF.out.2.1 HF.out.2.2)
set_option maxHeartbeats 4000000 in
theorem atom_param (p z k:Nat) (orr:Rd Ex) (t:Tok) (r:List Tok) (w:World) (h:PSt w p z (t :: r) k) (hk:t.kd=5):Calls Tryz.prog 143 #[.pointer (some ⟨p,0,none⟩)] w (Ans ExV p z k (bAtom z orr (t :: r)) w):=by
  have lp:=h.lt
  have htk:=h.tk
  have b0:Below w.heap.size w (w.alloc (.cells zExpr.toArray 44)):=ext_alloc (ext_refl _) _
  have N0:=zH (BkA.new w zExpr 44)
  have HP0:=zH (h.below b0)
  have B0:=zH b0
  have HR:bAtom z orr (t :: r)=.ok (.mk 3 zeroVal 0 0 t.n ⟨#[]⟩ []) r:=by rw[bAtom];simp[hk]
  rw[HR]
  have hwf:=hd_wf htk
  obtain⟨kd,n,a,s⟩:=t
  simp only at hk
  subst hk
  simp only[hd] at hwf
  clear HR htk
  have H:=zH (look_any p z k (⟨5,n,a,s⟩ :: r) _ HP0.out)
  simp only[hd] at H
  clear h b0
  go_enter Tryz.func143,Tryz.ntmps143
  go_wp2_with fail
  refine H.out.mono ?_
  rintro e V ⟨rfl,hb⟩
  have HPV:=zH (HP0.out.below hb)
  have BV:=zH (B0.out.trans (hb.mono B0.out.size))
  have NV:=zH (N0.out.on hb)
  have hfk:=fun w=>Tryz.tokKind 5 n a (bsB s) w
  have hfn:=fun w=>Tryz.tokN 5 n a (bsB s) w
  have hwV:w.heap.size<V.heap.size:=NV.out.lt
  clear hb H
  have HRD:=zH (read_yes p z k ⟨5,n,a,s⟩ r 5 V HPV.out rfl)
  go_wp2_with fail
  refine HRD.out.mono ?_
  rintro e X ⟨rfl,hP,hO⟩
  have HPX:=zH hP
  have NX:=zH (NV.out.outs hO (by omega))
  have PX:=zH ((Out.of (S:=fun j=>j=p∨w.heap.size≤j) BV.out).trans hO.up)
  clear hP hO
  obtain⟨d0,d1,d2,d3,d4,d5,d6,d7,d8⟩:=NX.out.c9_ rfl
  have fzr:=NX.out.fz
  have ltr:=NX.out.lt
  have HF:=zH (fin9g (w:=w) (V:=X) (P:=fun _=>False) (b:=w.heap.size) (gr:=w.heap.size) (re:=⟨3,zeroVal,0,0,n,⟨#[]⟩,none,0,0⟩) (Nat.le_refl _) lp (leaf_ex _ _ 3 zeroVal n ⟨#[]⟩ okVal_zer) (fun j hj=>hj.elim) HPX.out PX.out)
  go_wp2_with fail
  exact bodyPost_ret (v:=(Value.agg #[.int .i64 3,.int .i64 0,.int .i64 0,.string ⟨#[]⟩,.int .i64 0,.int .i64 0,.int .i64 (n:Int),.string ⟨#[]⟩,.slice none 0 0])) (by simp[results,Tryz.results143,go_sem,d0,d1,d2,d3,d4,d5,d6,d7,d8]) rfl (Ans.mkOk rfl HF.out.1 HF.out.2.1 HF.out.2.2)
set_option maxHeartbeats 4000000 in
theorem atom_true (p z k:Nat) (orr:Rd Ex) (t:Tok) (r:List Tok) (w:World) (h:PSt w p z (t :: r) k) (k2:t.kd≠2) (k3:t.kd≠3) (k4:t.kd≠4) (k5:t.kd≠5) (s0:hSees kwTrue (t :: r)=true):Calls Tryz.prog 143 #[.pointer (some ⟨p,0,none⟩)] w (Ans ExV p z k (bAtom z orr (t :: r)) w):=by
  have lp:=h.lt
  have htk:=h.tk
  have b0:Below w.heap.size w (w.alloc (.cells zExpr.toArray 44)):=ext_alloc (ext_refl _) _
  have N0:=zH (BkA.new w zExpr 44)
  have HP0:=zH (h.below b0)
  have B0:=zH b0
  have HR:bAtom z orr (t :: r)=.ok (exKon ⟨2,1,⟨#[]⟩⟩) r:=by rw[bAtom,if_neg k3,if_neg k4,if_neg k5,if_neg k2,if_pos s0]
  rw[HR]
  have S0:=zH s0
  have H0:=look_any p z k (t :: r) _ HP0.out
  obtain⟨⟨kd,n,a,s⟩,ht⟩:∃ t0,t0=hd z (t :: r):=⟨_,rfl⟩
  rw[← ht] at H0
  have i2:((kd:Int) == 2)=false:=by rw[beq_eq_false_iff_ne];have:=congrArg Tok.kd ht;simp only[hd] at this;omega
  have i3:((kd:Int) == 3)=false:=by rw[beq_eq_false_iff_ne];have:=congrArg Tok.kd ht;simp only[hd] at this;omega
  have i4:((kd:Int) == 4)=false:=by rw[beq_eq_false_iff_ne];have:=congrArg Tok.kd ht;simp only[hd] at this;omega
  have i5:((kd:Int) == 5)=false:=by rw[beq_eq_false_iff_ne];have:=congrArg Tok.kd ht;simp only[hd] at this;omega
  have H:=zH H0
  clear h b0 HR htk ht H0 k2 k3 k4 k5 s0
  go_enter Tryz.func143,Tryz.ntmps143
  go_wp2_with fail
  refine H.out.mono ?_
  rintro e V ⟨rfl,hb⟩
  have HQ0:=zH (HP0.out.below hb)
  have BQ0:=zH (B0.out.trans (hb.mono B0.out.size))
  have NQ0:=zH (N0.out.on hb)
  obtain⟨Q0,hQ0⟩:∃ Q0,Q0=V:=⟨_,rfl⟩
  rw[← hQ0] at HQ0 BQ0 NQ0 ⊢
  have hfk:=fun w=>Tryz.tokKind kd n a (bsB s) w
  clear hb H hQ0
  have hwV:w.heap.size<Q0.heap.size:=NQ0.out.lt
  have T:=zH (take_yes p z k t r kwTrue Q0 HQ0.out S0.out)
  go_wp2_with fail
  refine T.out.mono ?_
  rintro e X ⟨rfl,hP,hO⟩
  have HPX:=zH hP
  have NX:=zH (NQ0.out.outs hO (by omega))
  have PX:=zH ((Out.of (S:=fun j=>j=p∨w.heap.size≤j) BQ0.out).trans hO.up)
  clear hP hO T
  go_wp2_with fail
  refine (constant_any ⟨2,1,⟨#[]⟩⟩ X).mono ?_
  rintro e Y ⟨rfl,hb⟩
  have HPY:=zH (HPX.out.below hb)
  have NY:=zH (NX.out.on hb)
  have PY:=zH (PX.out.trans (Out.of hb))
  clear hb
  obtain⟨d0,d1,d2,d3,d4,d5,d6,d7,d8⟩:=NY.out.c9_ rfl
  have fzr:=NY.out.fz
  have ltr:=NY.out.lt
  have HF:=zH (fin9g (w:=w) (V:=Y) (P:=fun _=>False) (b:=w.heap.size) (gr:=w.heap.size) (re:=⟨1,⟨2,1,⟨#[]⟩⟩,0,0,0,⟨#[]⟩,none,0,0⟩) (Nat.le_refl _) lp (leaf_ex _ _ 1 ⟨2,1,⟨#[]⟩⟩ 0 ⟨#[]⟩ ⟨rfl,rfl,Nat.zero_le _⟩) (fun j hj=>hj.elim) HPY.out PY.out)
  go_wp2_with fail
  exact bodyPost_ret (v:=(Value.agg #[.int .i64 1,.int .i64 2,.int .i64 1,.string ⟨#[]⟩,.int .i64 0,.int .i64 0,.int .i64 0,.string ⟨#[]⟩,.slice none 0 0])) (by simp[results,Tryz.results143,go_sem,d0,d1,d2,d3,d4,d5,d6,d7,d8]) rfl (Ans.mkOk rfl HF.out.1 HF.out.2.1 HF.out.2.2)
set_option maxHeartbeats 4000000 in
theorem atom_false (p z k:Nat) (orr:Rd Ex) (t:Tok) (r:List Tok) (w:World) (h:PSt w p z (t :: r) k) (k2:t.kd≠2) (k3:t.kd≠3) (k4:t.kd≠4) (k5:t.kd≠5) (s0:hSees kwTrue (t :: r)=false) (s1:hSees kwFalse (t :: r)=true):Calls Tryz.prog 143 #[.pointer (some ⟨p,0,none⟩)] w (Ans ExV p z k (bAtom z orr (t :: r)) w):=by
  have lp:=h.lt
  have htk:=h.tk
  have b0:Below w.heap.size w (w.alloc (.cells zExpr.toArray 44)):=ext_alloc (ext_refl _) _
  have N0:=zH (BkA.new w zExpr 44)
  have HP0:=zH (h.below b0)
  have B0:=zH b0
  have HR:bAtom z orr (t :: r)=.ok (exKon ⟨2,0,⟨#[]⟩⟩) r:=by rw[bAtom,if_neg k3,if_neg k4,if_neg k5,if_neg k2,if_neg (show ¬ hSees kwTrue (t :: r)=true by rw[s0];decide),if_pos s1]
  rw[HR]
  have S0:=zH s0
  have S1:=zH s1
  have H0:=look_any p z k (t :: r) _ HP0.out
  obtain⟨⟨kd,n,a,s⟩,ht⟩:∃ t0,t0=hd z (t :: r):=⟨_,rfl⟩
  rw[← ht] at H0
  have i2:((kd:Int) == 2)=false:=by rw[beq_eq_false_iff_ne];have:=congrArg Tok.kd ht;simp only[hd] at this;omega
  have i3:((kd:Int) == 3)=false:=by rw[beq_eq_false_iff_ne];have:=congrArg Tok.kd ht;simp only[hd] at this;omega
  have i4:((kd:Int) == 4)=false:=by rw[beq_eq_false_iff_ne];have:=congrArg Tok.kd ht;simp only[hd] at this;omega
  have i5:((kd:Int) == 5)=false:=by rw[beq_eq_false_iff_ne];have:=congrArg Tok.kd ht;simp only[hd] at this;omega
  have H:=zH H0
  clear h b0 HR htk ht H0 k2 k3 k4 k5 s0 s1
  go_enter Tryz.func143,Tryz.ntmps143
  go_wp2_with fail
  refine H.out.mono ?_
  rintro e V ⟨rfl,hb⟩
  have HQ0:=zH (HP0.out.below hb)
  have BQ0:=zH (B0.out.trans (hb.mono B0.out.size))
  have NQ0:=zH (N0.out.on hb)
  obtain⟨Q0,hQ0⟩:∃ Q0,Q0=V:=⟨_,rfl⟩
  rw[← hQ0] at HQ0 BQ0 NQ0 ⊢
  have hfk:=fun w=>Tryz.tokKind kd n a (bsB s) w
  clear hb H hQ0
  have T0:=zH (take_no p z k (t :: r) kwTrue Q0 HQ0.out S0.out)
  go_wp2_with fail
  refine T0.out.mono ?_
  rintro e Q1 ⟨rfl,hb⟩
  have HQ1:=zH (HQ0.out.below hb)
  have BQ1:=zH (BQ0.out.trans (hb.mono BQ0.out.size))
  have NQ1:=zH (NQ0.out.on hb)
  clear hb T0
  have hwV:w.heap.size<Q1.heap.size:=NQ1.out.lt
  have T:=zH (take_yes p z k t r kwFalse Q1 HQ1.out S1.out)
  go_wp2_with fail
  refine T.out.mono ?_
  rintro e X ⟨rfl,hP,hO⟩
  have HPX:=zH hP
  have NX:=zH (NQ1.out.outs hO (by omega))
  have PX:=zH ((Out.of (S:=fun j=>j=p∨w.heap.size≤j) BQ1.out).trans hO.up)
  clear hP hO T
  go_wp2_with fail
  refine (constant_any ⟨2,0,⟨#[]⟩⟩ X).mono ?_
  rintro e Y ⟨rfl,hb⟩
  have HPY:=zH (HPX.out.below hb)
  have NY:=zH (NX.out.on hb)
  have PY:=zH (PX.out.trans (Out.of hb))
  clear hb
  obtain⟨d0,d1,d2,d3,d4,d5,d6,d7,d8⟩:=NY.out.c9_ rfl
  have fzr:=NY.out.fz
  have ltr:=NY.out.lt
  have HF:=zH (fin9g (w:=w) (V:=Y) (P:=fun _=>False) (b:=w.heap.size) (gr:=w.heap.size) (re:=⟨1,⟨2,0,⟨#[]⟩⟩,0,0,0,⟨#[]⟩,none,0,0⟩) (Nat.le_refl _) lp (leaf_ex _ _ 1 ⟨2,0,⟨#[]⟩⟩ 0 ⟨#[]⟩ ⟨rfl,rfl,Nat.zero_le _⟩) (fun j hj=>hj.elim) HPY.out PY.out)
  go_wp2_with fail
  exact bodyPost_ret (v:=(Value.agg #[.int .i64 1,.int .i64 2,.int .i64 0,.string ⟨#[]⟩,.int .i64 0,.int .i64 0,.int .i64 0,.string ⟨#[]⟩,.slice none 0 0])) (by simp[results,Tryz.results143,go_sem,d0,d1,d2,d3,d4,d5,d6,d7,d8]) rfl (Ans.mkOk rfl HF.out.1 HF.out.2.1 HF.out.2.2)
set_option maxHeartbeats 4000000 in
theorem atom_null (p z k:Nat) (orr:Rd Ex) (t:Tok) (r:List Tok) (w:World) (h:PSt w p z (t :: r) k) (k2:t.kd≠2) (k3:t.kd≠3) (k4:t.kd≠4) (k5:t.kd≠5) (s0:hSees kwTrue (t :: r)=false) (s1:hSees kwFalse (t :: r)=false) (s2:hSees kwNull (t :: r)=true):Calls Tryz.prog 143 #[.pointer (some ⟨p,0,none⟩)] w (Ans ExV p z k (bAtom z orr (t :: r)) w):=by
  have lp:=h.lt
  have htk:=h.tk
  have b0:Below w.heap.size w (w.alloc (.cells zExpr.toArray 44)):=ext_alloc (ext_refl _) _
  have N0:=zH (BkA.new w zExpr 44)
  have HP0:=zH (h.below b0)
  have B0:=zH b0
  have HR:bAtom z orr (t :: r)=.ok (exKon zeroVal) r:=by rw[bAtom,if_neg k3,if_neg k4,if_neg k5,if_neg k2,if_neg (show ¬ hSees kwTrue (t :: r)=true by rw[s0];decide),if_neg (show ¬ hSees kwFalse (t :: r)=true by rw[s1];decide),if_pos s2]
  rw[HR]
  have S0:=zH s0
  have S1:=zH s1
  have S2:=zH s2
  have H0:=look_any p z k (t :: r) _ HP0.out
  obtain⟨⟨kd,n,a,s⟩,ht⟩:∃ t0,t0=hd z (t :: r):=⟨_,rfl⟩
  rw[← ht] at H0
  have i2:((kd:Int) == 2)=false:=by rw[beq_eq_false_iff_ne];have:=congrArg Tok.kd ht;simp only[hd] at this;omega
  have i3:((kd:Int) == 3)=false:=by rw[beq_eq_false_iff_ne];have:=congrArg Tok.kd ht;simp only[hd] at this;omega
  have i4:((kd:Int) == 4)=false:=by rw[beq_eq_false_iff_ne];have:=congrArg Tok.kd ht;simp only[hd] at this;omega
  have i5:((kd:Int) == 5)=false:=by rw[beq_eq_false_iff_ne];have:=congrArg Tok.kd ht;simp only[hd] at this;omega
  have H:=zH H0
  clear h b0 HR htk ht H0 k2 k3 k4 k5 s0 s1 s2
  go_enter Tryz.func143,Tryz.ntmps143
  go_wp2_with fail
  refine H.out.mono ?_
  rintro e V ⟨rfl,hb⟩
  have HQ0:=zH (HP0.out.below hb)
  have BQ0:=zH (B0.out.trans (hb.mono B0.out.size))
  have NQ0:=zH (N0.out.on hb)
  obtain⟨Q0,hQ0⟩:∃ Q0,Q0=V:=⟨_,rfl⟩
  rw[← hQ0] at HQ0 BQ0 NQ0 ⊢
  have hfk:=fun w=>Tryz.tokKind kd n a (bsB s) w
  clear hb H hQ0
  have T0:=zH (take_no p z k (t :: r) kwTrue Q0 HQ0.out S0.out)
  go_wp2_with fail
  refine T0.out.mono ?_
  rintro e Q1 ⟨rfl,hb⟩
  have HQ1:=zH (HQ0.out.below hb)
  have BQ1:=zH (BQ0.out.trans (hb.mono BQ0.out.size))
  have NQ1:=zH (NQ0.out.on hb)
  clear hb T0
  have T1:=zH (take_no p z k (t :: r) kwFalse Q1 HQ1.out S1.out)
  go_wp2_with fail
  refine T1.out.mono ?_
  rintro e Q2 ⟨rfl,hb⟩
  have HQ2:=zH (HQ1.out.below hb)
  have BQ2:=zH (BQ1.out.trans (hb.mono BQ1.out.size))
  have NQ2:=zH (NQ1.out.on hb)
  clear hb T1
  have hwV:w.heap.size<Q2.heap.size:=NQ2.out.lt
  have T:=zH (take_yes p z k t r kwNull Q2 HQ2.out S2.out)
  go_wp2_with fail
  refine T.out.mono ?_
  rintro e X ⟨rfl,hP,hO⟩
  have HPX:=zH hP
  have NX:=zH (NQ2.out.outs hO (by omega))
  have PX:=zH ((Out.of (S:=fun j=>j=p∨w.heap.size≤j) BQ2.out).trans hO.up)
  clear hP hO T
  go_wp2_with fail
  refine (constant_any zeroVal X).mono ?_
  rintro e Y ⟨rfl,hb⟩
  have HPY:=zH (HPX.out.below hb)
  have NY:=zH (NX.out.on hb)
  have PY:=zH (PX.out.trans (Out.of hb))
  clear hb
  obtain⟨d0,d1,d2,d3,d4,d5,d6,d7,d8⟩:=NY.out.c9_ rfl
  have fzr:=NY.out.fz
  have ltr:=NY.out.lt
  have HF:=zH (fin9g (w:=w) (V:=Y) (P:=fun _=>False) (b:=w.heap.size) (gr:=w.heap.size) (re:=⟨1,zeroVal,0,0,0,⟨#[]⟩,none,0,0⟩) (Nat.le_refl _) lp (leaf_ex _ _ 1 zeroVal 0 ⟨#[]⟩ ⟨rfl,rfl,Nat.zero_le _⟩) (fun j hj=>hj.elim) HPY.out PY.out)
  go_wp2_with fail
  exact bodyPost_ret (v:=(Value.agg #[.int .i64 1,.int .i64 0,.int .i64 0,.string ⟨#[]⟩,.int .i64 0,.int .i64 0,.int .i64 0,.string ⟨#[]⟩,.slice none 0 0])) (by simp[results,Tryz.results143,go_sem,d0,d1,d2,d3,d4,d5,d6,d7,d8,zeroVal]) rfl (Ans.mkOk rfl HF.out.1 HF.out.2.1 HF.out.2.2)
set_option maxHeartbeats 4000000 in
theorem atom_paren_err (p z k:Nat) (orr:Rd Ex) (t:Tok) (r:List Tok) (ho:Shr orr) (hC:RdC 52 p z k orr) (w:World) (h:PSt w p z (t :: r) k) (k2:t.kd≠2) (k3:t.kd≠3) (k4:t.kd≠4) (k5:t.kd≠5) (s0:hSees kwTrue (t :: r)=false) (s1:hSees kwFalse (t :: r)=false) (s2:hSees kwNull (t :: r)=false) (s3:hSees [40] (t :: r)=true) (er a0:Nat) (hr:orr r=.err er a0):Calls Tryz.prog 143 #[.pointer (some ⟨p,0,none⟩)] w (Ans ExV p z k (bAtom z orr (t :: r)) w):=by
  have lp:=h.lt
  have htk:=h.tk
  have b0:Below w.heap.size w (w.alloc (.cells zExpr.toArray 44)):=ext_alloc (ext_refl _) _
  have N0:=zH (BkA.new w zExpr 44)
  have HP0:=zH (h.below b0)
  have B0:=zH b0
  have HR:bAtom z orr (t :: r)=.err er a0:=by rw[bAtom,if_neg k3,if_neg k4,if_neg k5,if_neg k2,if_neg (show ¬ hSees kwTrue (t :: r)=true by rw[s0];decide),if_neg (show ¬ hSees kwFalse (t :: r)=true by rw[s1];decide),if_neg (show ¬ hSees kwNull (t :: r)=true by rw[s2];decide),if_pos s3,hr];rfl
  rw[HR]
  have S0:=zH s0
  have S1:=zH s1
  have S2:=zH s2
  have S3:=zH s3
  have HOR:=zH hr
  have HCC:=zH hC
  have H0:=look_any p z k (t :: r) _ HP0.out
  obtain⟨⟨kd,n,a,s⟩,ht⟩:∃ t0,t0=hd z (t :: r):=⟨_,rfl⟩
  rw[← ht] at H0
  have i2:((kd:Int) == 2)=false:=by rw[beq_eq_false_iff_ne];have:=congrArg Tok.kd ht;simp only[hd] at this;omega
  have i3:((kd:Int) == 3)=false:=by rw[beq_eq_false_iff_ne];have:=congrArg Tok.kd ht;simp only[hd] at this;omega
  have i4:((kd:Int) == 4)=false:=by rw[beq_eq_false_iff_ne];have:=congrArg Tok.kd ht;simp only[hd] at this;omega
  have i5:((kd:Int) == 5)=false:=by rw[beq_eq_false_iff_ne];have:=congrArg Tok.kd ht;simp only[hd] at this;omega
  have H:=zH H0
  clear h b0 HR htk ht H0 k2 k3 k4 k5 s0 s1 s2 s3 hr hC
  go_enter Tryz.func143,Tryz.ntmps143
  go_wp2_with fail
  refine H.out.mono ?_
  rintro e V ⟨rfl,hb⟩
  have HQ0:=zH (HP0.out.below hb)
  have BQ0:=zH (B0.out.trans (hb.mono B0.out.size))
  have NQ0:=zH (N0.out.on hb)
  obtain⟨Q0,hQ0⟩:∃ Q0,Q0=V:=⟨_,rfl⟩
  rw[← hQ0] at HQ0 BQ0 NQ0 ⊢
  have hfk:=fun w=>Tryz.tokKind kd n a (bsB s) w
  clear hb H hQ0
  have T0:=zH (take_no p z k (t :: r) kwTrue Q0 HQ0.out S0.out)
  go_wp2_with fail
  refine T0.out.mono ?_
  rintro e Q1 ⟨rfl,hb⟩
  have HQ1:=zH (HQ0.out.below hb)
  have BQ1:=zH (BQ0.out.trans (hb.mono BQ0.out.size))
  have NQ1:=zH (NQ0.out.on hb)
  clear hb T0
  have T1:=zH (take_no p z k (t :: r) kwFalse Q1 HQ1.out S1.out)
  go_wp2_with fail
  refine T1.out.mono ?_
  rintro e Q2 ⟨rfl,hb⟩
  have HQ2:=zH (HQ1.out.below hb)
  have BQ2:=zH (BQ1.out.trans (hb.mono BQ1.out.size))
  have NQ2:=zH (NQ1.out.on hb)
  clear hb T1
  have T2:=zH (take_no p z k (t :: r) kwNull Q2 HQ2.out S2.out)
  go_wp2_with fail
  refine T2.out.mono ?_
  rintro e Q3 ⟨rfl,hb⟩
  have HQ3:=zH (HQ2.out.below hb)
  have BQ3:=zH (BQ2.out.trans (hb.mono BQ2.out.size))
  have NQ3:=zH (NQ2.out.on hb)
  clear hb T2
  have hwV:w.heap.size<Q3.heap.size:=NQ3.out.lt
  have T:=zH (take_yes p z k t r [40] Q3 HQ3.out S3.out)
  go_wp2_with fail
  refine T.out.mono ?_
  rintro e X ⟨rfl,hP,hO⟩
  have HPX:=zH hP
  have NX:=zH (NQ3.out.outs hO (by omega))
  have PX:=zH ((Out.of (S:=fun j=>j=p∨w.heap.size≤j) BQ3.out).trans hO.up)
  clear hP hO T
  have CO:=zH (HCC.out r X HPX.out)
  go_wp2_with fail
  refine CO.out.mono ?_
  intro e Y hA
  obtain⟨rfl,hE,hO⟩:=hA.err HOR.out
  go_wp2_with fail
  exact⟨rfl,Ans.mkErr rfl hE (Out.down (PX.out.trans hO.up))⟩
set_option maxHeartbeats 4000000 in
theorem atom_paren_nop (p z k:Nat) (orr:Rd Ex) (t:Tok) (r:List Tok) (ho:Shr orr) (hC:RdC 52 p z k orr) (w:World) (h:PSt w p z (t :: r) k) (k2:t.kd≠2) (k3:t.kd≠3) (k4:t.kd≠4) (k5:t.kd≠5) (s0:hSees kwTrue (t :: r)=false) (s1:hSees kwFalse (t :: r)=false) (s2:hSees kwNull (t :: r)=false) (s3:hSees [40] (t :: r)=true) (x:Ex) (r2:List Tok) (hr:orr r=.ok x r2) (hn:hSees [41] r2=false):Calls Tryz.prog 143 #[.pointer (some ⟨p,0,none⟩)] w (Ans ExV p z k (bAtom z orr (t :: r)) w):=by
  have lp:=h.lt
  have htk:=h.tk
  have b0:Below w.heap.size w (w.alloc (.cells zExpr.toArray 44)):=ext_alloc (ext_refl _) _
  have N0:=zH (BkA.new w zExpr 44)
  have HP0:=zH (h.below b0)
  have B0:=zH b0
  have HR:bAtom z orr (t :: r)=.err 7 (hAt z r2):=by rw[bAtom,if_neg k3,if_neg k4,if_neg k5,if_neg k2,if_neg (show ¬ hSees kwTrue (t :: r)=true by rw[s0];decide),if_neg (show ¬ hSees kwFalse (t :: r)=true by rw[s1];decide),if_neg (show ¬ hSees kwNull (t :: r)=true by rw[s2];decide),if_pos s3,hr,bind_ok,need,if_neg (by rw[hn];decide)]
  rw[HR]
  have S0:=zH s0
  have S1:=zH s1
  have S2:=zH s2
  have S3:=zH s3
  have HOR:=zH hr
  have HCC:=zH hC
  have HN:=zH hn
  have H0:=look_any p z k (t :: r) _ HP0.out
  obtain⟨⟨kd,n,a,s⟩,ht⟩:∃ t0,t0=hd z (t :: r):=⟨_,rfl⟩
  rw[← ht] at H0
  have i2:((kd:Int) == 2)=false:=by rw[beq_eq_false_iff_ne];have:=congrArg Tok.kd ht;simp only[hd] at this;omega
  have i3:((kd:Int) == 3)=false:=by rw[beq_eq_false_iff_ne];have:=congrArg Tok.kd ht;simp only[hd] at this;omega
  have i4:((kd:Int) == 4)=false:=by rw[beq_eq_false_iff_ne];have:=congrArg Tok.kd ht;simp only[hd] at this;omega
  have i5:((kd:Int) == 5)=false:=by rw[beq_eq_false_iff_ne];have:=congrArg Tok.kd ht;simp only[hd] at this;omega
  have H:=zH H0
  clear h b0 HR htk ht H0 k2 k3 k4 k5 s0 s1 s2 s3 hr hC hn
  go_enter Tryz.func143,Tryz.ntmps143
  go_wp2_with fail
  refine H.out.mono ?_
  rintro e V ⟨rfl,hb⟩
  have HQ0:=zH (HP0.out.below hb)
  have BQ0:=zH (B0.out.trans (hb.mono B0.out.size))
  have NQ0:=zH (N0.out.on hb)
  obtain⟨Q0,hQ0⟩:∃ Q0,Q0=V:=⟨_,rfl⟩
  rw[← hQ0] at HQ0 BQ0 NQ0 ⊢
  have hfk:=fun w=>Tryz.tokKind kd n a (bsB s) w
  clear hb H hQ0
  have T0:=zH (take_no p z k (t :: r) kwTrue Q0 HQ0.out S0.out)
  go_wp2_with fail
  refine T0.out.mono ?_
  rintro e Q1 ⟨rfl,hb⟩
  have HQ1:=zH (HQ0.out.below hb)
  have BQ1:=zH (BQ0.out.trans (hb.mono BQ0.out.size))
  have NQ1:=zH (NQ0.out.on hb)
  clear hb T0
  have T1:=zH (take_no p z k (t :: r) kwFalse Q1 HQ1.out S1.out)
  go_wp2_with fail
  refine T1.out.mono ?_
  rintro e Q2 ⟨rfl,hb⟩
  have HQ2:=zH (HQ1.out.below hb)
  have BQ2:=zH (BQ1.out.trans (hb.mono BQ1.out.size))
  have NQ2:=zH (NQ1.out.on hb)
  clear hb T1
  have T2:=zH (take_no p z k (t :: r) kwNull Q2 HQ2.out S2.out)
  go_wp2_with fail
  refine T2.out.mono ?_
  rintro e Q3 ⟨rfl,hb⟩
  have HQ3:=zH (HQ2.out.below hb)
  have BQ3:=zH (BQ2.out.trans (hb.mono BQ2.out.size))
  have NQ3:=zH (NQ2.out.on hb)
  clear hb T2
  have hwV:w.heap.size<Q3.heap.size:=NQ3.out.lt
  have T:=zH (take_yes p z k t r [40] Q3 HQ3.out S3.out)
  go_wp2_with fail
  refine T.out.mono ?_
  rintro e X ⟨rfl,hP,hO⟩
  have HPX:=zH hP
  have NX:=zH (NQ3.out.outs hO (by omega))
  have PX:=zH ((Out.of (S:=fun j=>j=p∨w.heap.size≤j) BQ3.out).trans hO.up)
  clear hP hO T
  have CO:=zH (HCC.out r X HPX.out)
  go_wp2_with fail
  refine CO.out.mono ?_
  intro e Y hA
  obtain⟨⟨v,rfl,⟨⟨fop,⟨fvk,fvn,fvs⟩,frel,fcol,fn,fs,fq,flen,fc⟩,rfl,hx⟩⟩,hP,hO⟩:=hA.ok HOR.out
  have hwX:w.heap.size<X.heap.size:=NX.out.lt
  have NY:=zH (NX.out.outs hO (by omega))
  have PY:=zH (PX.out.trans hO.up)
  have b1:Below Y.heap.size Y (Y.alloc (.cells #[.int .i64 fop,.int .i64 fvk,.int .i64 fvn,.string fvs,.int .i64 frel,.int .i64 fcol,.int .i64 fn,.string fs,.slice fq flen fc] 44)):=ext_alloc (ext_refl _) _
  have NE:=BkA.new Y [.int .i64 fop,.int .i64 fvk,.int .i64 fvn,.string fvs,.int .i64 frel,.int .i64 fcol,.int .i64 fn,.string fs,.slice fq flen fc] 44
  have hwY:w.heap.size<Y.heap.size:=NY.out.lt
  have HXU:=ExMP.on (Q:=fun j=>w.heap.size<j∧j≠Y.heap.size) b1.size (fun j _ hj=>b1.block j hj) (fun j hj hl=>⟨by omega,by omega⟩) _ _ hx
  have HPU:=hP.below b1
  have NYU:=NY.out.on b1
  obtain⟨U,hU⟩:∃ U,U=Y.alloc (.cells #[.int .i64 fop,.int .i64 fvk,.int .i64 fvn,.string fvs,.int .i64 frel,.int .i64 fcol,.int .i64 fn,.string fs,.slice fq flen fc] 44):=⟨_,rfl⟩
  rw[← hU] at b1 NE HXU HPU NYU
  have HU:=zH hU
  have PU:=zH (PY.out.trans (Out.of b1))
  have HPU:=zH HPU
  have NE:=zH NE
  have HXU:=zH HXU
  have NYU:=zH NYU
  clear hx hP hO hA CO hU b1
  go_upto_region 18 with fail
  rw[← HU.out]
  clear HU
  go_wp2_with fail
  refine (need_no p z k r2 [41] U HPU.out HN.out).mono ?_
  rintro e Z ⟨rfl,hE,hO2⟩
  go_wp2_with fail
  exact⟨rfl,Ans.mkErr rfl hE (Out.down (PU.out.trans hO2.up))⟩
set_option maxHeartbeats 4000000 in
theorem atom_paren_ok (p z k:Nat) (orr:Rd Ex) (t:Tok) (r:List Tok) (ho:Shr orr) (hC:RdC 52 p z k orr) (w:World) (h:PSt w p z (t :: r) k) (k2:t.kd≠2) (k3:t.kd≠3) (k4:t.kd≠4) (k5:t.kd≠5) (s0:hSees kwTrue (t :: r)=false) (s1:hSees kwFalse (t :: r)=false) (s2:hSees kwNull (t :: r)=false) (s3:hSees [40] (t :: r)=true) (x:Ex) (t3:Tok) (r3:List Tok) (hr:orr r=.ok x (t3 :: r3)) (hn:hSees [41] (t3 :: r3)=true):Calls Tryz.prog 143 #[.pointer (some ⟨p,0,none⟩)] w (Ans ExV p z k (bAtom z orr (t :: r)) w):=by
  have lp:=h.lt
  have htk:=h.tk
  have b0:Below w.heap.size w (w.alloc (.cells zExpr.toArray 44)):=ext_alloc (ext_refl _) _
  have N0:=zH (BkA.new w zExpr 44)
  have HP0:=zH (h.below b0)
  have B0:=zH b0
  have HR:bAtom z orr (t :: r)=.ok x r3:=by rw[bAtom,if_neg k3,if_neg k4,if_neg k5,if_neg k2,if_neg (show ¬ hSees kwTrue (t :: r)=true by rw[s0];decide),if_neg (show ¬ hSees kwFalse (t :: r)=true by rw[s1];decide),if_neg (show ¬ hSees kwNull (t :: r)=true by rw[s2];decide),if_pos s3,hr,bind_ok,need,if_pos hn];rfl
  rw[HR]
  have S0:=zH s0
  have S1:=zH s1
  have S2:=zH s2
  have S3:=zH s3
  have HOR:=zH hr
  have HCC:=zH hC
  have HN:=zH hn
  have H0:=look_any p z k (t :: r) _ HP0.out
  obtain⟨⟨kd,n,a,s⟩,ht⟩:∃ t0,t0=hd z (t :: r):=⟨_,rfl⟩
  rw[← ht] at H0
  have i2:((kd:Int) == 2)=false:=by rw[beq_eq_false_iff_ne];have:=congrArg Tok.kd ht;simp only[hd] at this;omega
  have i3:((kd:Int) == 3)=false:=by rw[beq_eq_false_iff_ne];have:=congrArg Tok.kd ht;simp only[hd] at this;omega
  have i4:((kd:Int) == 4)=false:=by rw[beq_eq_false_iff_ne];have:=congrArg Tok.kd ht;simp only[hd] at this;omega
  have i5:((kd:Int) == 5)=false:=by rw[beq_eq_false_iff_ne];have:=congrArg Tok.kd ht;simp only[hd] at this;omega
  have H:=zH H0
  clear h b0 HR htk ht H0 k2 k3 k4 k5 s0 s1 s2 s3 hr hC hn
  go_enter Tryz.func143,Tryz.ntmps143
  go_wp2_with fail
  refine H.out.mono ?_
  rintro e V ⟨rfl,hb⟩
  have HQ0:=zH (HP0.out.below hb)
  have BQ0:=zH (B0.out.trans (hb.mono B0.out.size))
  have NQ0:=zH (N0.out.on hb)
  obtain⟨Q0,hQ0⟩:∃ Q0,Q0=V:=⟨_,rfl⟩
  rw[← hQ0] at HQ0 BQ0 NQ0 ⊢
  have hfk:=fun w=>Tryz.tokKind kd n a (bsB s) w
  clear hb H hQ0
  have T0:=zH (take_no p z k (t :: r) kwTrue Q0 HQ0.out S0.out)
  go_wp2_with fail
  refine T0.out.mono ?_
  rintro e Q1 ⟨rfl,hb⟩
  have HQ1:=zH (HQ0.out.below hb)
  have BQ1:=zH (BQ0.out.trans (hb.mono BQ0.out.size))
  have NQ1:=zH (NQ0.out.on hb)
  clear hb T0
  have T1:=zH (take_no p z k (t :: r) kwFalse Q1 HQ1.out S1.out)
  go_wp2_with fail
  refine T1.out.mono ?_
  rintro e Q2 ⟨rfl,hb⟩
  have HQ2:=zH (HQ1.out.below hb)
  have BQ2:=zH (BQ1.out.trans (hb.mono BQ1.out.size))
  have NQ2:=zH (NQ1.out.on hb)
  clear hb T1
  have T2:=zH (take_no p z k (t :: r) kwNull Q2 HQ2.out S2.out)
  go_wp2_with fail
  refine T2.out.mono ?_
  rintro e Q3 ⟨rfl,hb⟩
  have HQ3:=zH (HQ2.out.below hb)
  have BQ3:=zH (BQ2.out.trans (hb.mono BQ2.out.size))
  have NQ3:=zH (NQ2.out.on hb)
  clear hb T2
  have hwV:w.heap.size<Q3.heap.size:=NQ3.out.lt
  have T:=zH (take_yes p z k t r [40] Q3 HQ3.out S3.out)
  go_wp2_with fail
  refine T.out.mono ?_
  rintro e X ⟨rfl,hP,hO⟩
  have HPX:=zH hP
  have NX:=zH (NQ3.out.outs hO (by omega))
  have PX:=zH ((Out.of (S:=fun j=>j=p∨w.heap.size≤j) BQ3.out).trans hO.up)
  clear hP hO T
  have CO:=zH (HCC.out r X HPX.out)
  go_wp2_with fail
  refine CO.out.mono ?_
  intro e Y hA
  obtain⟨⟨v,rfl,⟨⟨fop,⟨fvk,fvn,fvs⟩,frel,fcol,fn,fs,fq,flen,fc⟩,rfl,hx⟩⟩,hP,hO⟩:=hA.ok HOR.out
  have hwX:w.heap.size<X.heap.size:=NX.out.lt
  have NY:=zH (NX.out.outs hO (by omega))
  have PY:=zH (PX.out.trans hO.up)
  have b1:Below Y.heap.size Y (Y.alloc (.cells #[.int .i64 fop,.int .i64 fvk,.int .i64 fvn,.string fvs,.int .i64 frel,.int .i64 fcol,.int .i64 fn,.string fs,.slice fq flen fc] 44)):=ext_alloc (ext_refl _) _
  have NE:=BkA.new Y [.int .i64 fop,.int .i64 fvk,.int .i64 fvn,.string fvs,.int .i64 frel,.int .i64 fcol,.int .i64 fn,.string fs,.slice fq flen fc] 44
  have hwY:w.heap.size<Y.heap.size:=NY.out.lt
  have HXU:=ExMP.on (Q:=fun j=>w.heap.size<j∧j≠Y.heap.size) b1.size (fun j _ hj=>b1.block j hj) (fun j hj hl=>⟨by omega,by omega⟩) _ _ hx
  have HPU:=hP.below b1
  have NYU:=NY.out.on b1
  obtain⟨U,hU⟩:∃ U,U=Y.alloc (.cells #[.int .i64 fop,.int .i64 fvk,.int .i64 fvn,.string fvs,.int .i64 frel,.int .i64 fcol,.int .i64 fn,.string fs,.slice fq flen fc] 44):=⟨_,rfl⟩
  rw[← hU] at b1 NE HXU HPU NYU
  have HU:=zH hU
  have PU:=zH (PY.out.trans (Out.of b1))
  have HPU:=zH HPU
  have NE:=zH NE
  have HXU:=zH HXU
  have NYU:=zH NYU
  clear hx hP hO hA CO hU b1
  go_upto_region 18 with fail
  rw[← HU.out]
  clear HU
  go_wp2_with fail
  refine (need_yes p z k t3 r3 [41] U HPU.out HN.out).mono ?_
  rintro e Z ⟨rfl,hP3,hO3⟩
  have hpY:p<Y.heap.size:=by omega
  have NEZ:=NE.out.outs hO3 (by omega)
  have NZ:=zH (NYU.out.outs hO3 (by omega))
  have HXZ:=zH (ExMP.on hO3.size (fun j hj hl=>hO3.block j hl (fun (e:j=p)=>by have:=hj.1;omega)) (fun _ h _=>h) _ _ HXU.out)
  have PZ:=zH (PU.out.trans hO3.up)
  have HPZ:=zH hP3
  obtain⟨c0,c1,c2,c3,c4,c5,c6,c7,c8⟩:=NEZ.c9_ rfl
  have fz:=NEZ.fz
  clear hP3 hO3
  obtain⟨d0,d1,d2,d3,d4,d5,d6,d7,d8⟩:=NZ.out.c9_ rfl
  have fzr:=NZ.out.fz
  have ltr:=NZ.out.lt
  have HF:=zH (fin9g (w:=w) (V:=Z) (P:=fun j=>w.heap.size<j∧j≠Y.heap.size) (b:=w.heap.size) (gr:=w.heap.size) (re:=⟨fop,⟨fvk,fvn,fvs⟩,frel,fcol,fn,fs,fq,flen,fc⟩) (Nat.le_refl _) lp (HXZ.out) (fun j hj=>⟨by have:=hj.1;omega,by have:=hj.1;omega⟩) HPZ.out PZ.out)
  go_wp2_with fail
  exact bodyPost_ret (v:=(Value.agg #[.int .i64 fop,.int .i64 fvk,.int .i64 fvn,.string fvs,.int .i64 frel,.int .i64 fcol,.int .i64 fn,.string fs,.slice fq flen fc])) (by simp[results,Tryz.results143,go_sem,d0,d1,d2,d3,d4,d5,d6,d7,d8]) rfl (Ans.mkOk rfl HF.out.1 HF.out.2.1 HF.out.2.2)
set_option maxHeartbeats 4000000 in
theorem atom_bad (p z k:Nat) (orr:Rd Ex) (l:List Tok) (w:World) (h:PSt w p z l k) (k2:(hd z l).kd≠2) (k3:(hd z l).kd≠3) (k4:(hd z l).kd≠4) (k5:(hd z l).kd≠5) (s0:hSees kwTrue l=false) (s1:hSees kwFalse l=false) (s2:hSees kwNull l=false) (s3:hSees [40] l=false):Calls Tryz.prog 143 #[.pointer (some ⟨p,0,none⟩)] w (Ans ExV p z k (bAtom z orr l) w):=by
  have lp:=h.lt
  have htk:=h.tk
  have b0:Below w.heap.size w (w.alloc (.cells zExpr.toArray 44)):=ext_alloc (ext_refl _) _
  have N0:=zH (BkA.new w zExpr 44)
  have HP0:=zH (h.below b0)
  have B0:=zH b0
  have HR:bAtom z orr l=.err 7 (hAt z l):=by
    cases l with
    | nil=>rfl
    | cons t r=>simp only[hd] at k2 k3 k4 k5;rw[bAtom,if_neg k3,if_neg k4,if_neg k5,if_neg k2,if_neg (by rw[s0];decide),if_neg (by rw[s1];decide),if_neg (by rw[s2];decide),if_neg (by rw[s3];decide)];rfl
  rw[HR]
  have S0:=zH s0
  have S1:=zH s1
  have S2:=zH s2
  have S3:=zH s3
  have H0:=look_any p z k l _ HP0.out
  obtain⟨⟨kd,n,a,s⟩,ht⟩:∃ t0,t0=hd z l:=⟨_,rfl⟩
  rw[← ht] at H0
  have i2:((kd:Int) == 2)=false:=by rw[beq_eq_false_iff_ne];rw[← ht] at k2;simp only at k2;omega
  have i3:((kd:Int) == 3)=false:=by rw[beq_eq_false_iff_ne];rw[← ht] at k3;simp only at k3;omega
  have i4:((kd:Int) == 4)=false:=by rw[beq_eq_false_iff_ne];rw[← ht] at k4;simp only at k4;omega
  have i5:((kd:Int) == 5)=false:=by rw[beq_eq_false_iff_ne];rw[← ht] at k5;simp only at k5;omega
  have H:=zH H0
  clear h b0 HR htk ht H0 k2 k3 k4 k5 s0 s1 s2 s3
  go_enter Tryz.func143,Tryz.ntmps143
  go_wp2_with fail
  refine H.out.mono ?_
  rintro e V ⟨rfl,hb⟩
  have HQ0:=zH (HP0.out.below hb)
  have BQ0:=zH (B0.out.trans (hb.mono B0.out.size))
  have NQ0:=zH (N0.out.on hb)
  obtain⟨Q0,hQ0⟩:∃ Q0,Q0=V:=⟨_,rfl⟩
  rw[← hQ0] at HQ0 BQ0 NQ0 ⊢
  have hfk:=fun w=>Tryz.tokKind kd n a (bsB s) w
  clear hb H hQ0
  have T0:=zH (take_no p z k l kwTrue Q0 HQ0.out S0.out)
  go_wp2_with fail
  refine T0.out.mono ?_
  rintro e Q1 ⟨rfl,hb⟩
  have HQ1:=zH (HQ0.out.below hb)
  have BQ1:=zH (BQ0.out.trans (hb.mono BQ0.out.size))
  have NQ1:=zH (NQ0.out.on hb)
  clear hb T0
  have T1:=zH (take_no p z k l kwFalse Q1 HQ1.out S1.out)
  go_wp2_with fail
  refine T1.out.mono ?_
  rintro e Q2 ⟨rfl,hb⟩
  have HQ2:=zH (HQ1.out.below hb)
  have BQ2:=zH (BQ1.out.trans (hb.mono BQ1.out.size))
  have NQ2:=zH (NQ1.out.on hb)
  clear hb T1
  have T2:=zH (take_no p z k l kwNull Q2 HQ2.out S2.out)
  go_wp2_with fail
  refine T2.out.mono ?_
  rintro e Q3 ⟨rfl,hb⟩
  have HQ3:=zH (HQ2.out.below hb)
  have BQ3:=zH (BQ2.out.trans (hb.mono BQ2.out.size))
  have NQ3:=zH (NQ2.out.on hb)
  clear hb T2
  have T3:=zH (take_no p z k l [40] Q3 HQ3.out S3.out)
  go_wp2_with fail
  refine T3.out.mono ?_
  rintro e Q4 ⟨rfl,hb⟩
  have HQ4:=zH (HQ3.out.below hb)
  have BQ4:=zH (BQ3.out.trans (hb.mono BQ3.out.size))
  have NQ4:=zH (NQ3.out.on hb)
  clear hb T3
  go_wp2_with fail
  refine (wrong_any p z k l 7 Q4 HQ4.out).mono ?_
  rintro e Y ⟨rfl,hb⟩
  go_wp2_with fail
  exact⟨rfl,Ans.mkErr rfl (HQ4.out.below hb).pe ((Out.of BQ4.out).trans (Out.of hb))⟩
theorem Tryz.enter_text (args:Array Value) (w:World):(callFunc 152 args).run Tryz.prog w=.ok (.enter 152 args) w:=by kernel_rfl
theorem Tryz.enter_read (args:Array Value) (w:World):(callFunc 55 args).run Tryz.prog w=.ok (.enter 55 args) w:=by kernel_rfl
set_option maxHeartbeats 4000000 in
theorem col_no (p z k:Nat) (t:Tok) (r:List Tok) (hk:t.kd=2) (hd1:hSees [46] r=false) (w:World) (h:PSt w p z (t :: r) k):Calls Tryz.prog 153 #[.pointer (some ⟨p,0,none⟩)] w (Ans ExV p z k (bCol z t.s r) w):=by
  have lp:=h.lt
  have htk:=h.tk
  have b0:Below w.heap.size w (w.alloc (.cells zExpr.toArray 44)):=ext_alloc (ext_refl _) _
  have N0:=zH (BkA.new w zExpr 44)
  have HP0:=zH (h.below b0)
  have B0:=zH b0
  have HR:bCol z t.s r=.ok (.mk 19 (txtV t.s) 0 0 0 ⟨#[]⟩ []) r:=by unfold bCol;rw[if_neg (by rw[hd1];decide)]
  rw[HR]
  have hwf:=hd_wf htk
  have HD1:=zH hd1
  obtain⟨kd,n,a,s⟩:=t
  simp only at hk
  subst hk
  simp only[hd] at hwf
  have HRD:=zH (read_yes p z k ⟨2,n,a,s⟩ r 2 _ HP0.out rfl)
  clear HR htk h b0 hd1
  go_enter Tryz.func153,Tryz.ntmps153
  go_wp2_with fail
  refine HRD.out.mono ?_
  rintro e V ⟨rfl,hP,hO⟩
  have NV:=zH (N0.out.outs hO (by omega))
  have PV:=zH ((Out.of (S:=fun j=>j=p∨w.heap.size≤j) B0.out).trans hO.up)
  have b1:Below V.heap.size V (V.alloc (.cells #[.int .i64 2,.int .i64 (n:Int),.int .i64 (a:Int),.string (bsB s)] 55)):=ext_alloc (ext_refl _) _
  have NT:=BkA.new V [.int .i64 2,.int .i64 (n:Int),.int .i64 (a:Int),.string (bsB s)] 55
  have hwV:w.heap.size<V.heap.size:=NV.out.lt
  have HPU:=hP.below b1
  have NVU:=NV.out.on b1
  obtain⟨U,hU⟩:∃ U,U=V.alloc (.cells #[.int .i64 2,.int .i64 (n:Int),.int .i64 (a:Int),.string (bsB s)] 55):=⟨_,rfl⟩
  rw[← hU] at b1 NT HPU NVU
  have HU:=zH hU
  have HPU:=zH HPU
  have NT:=zH NT
  have NVU:=zH NVU
  have PU:=zH (PV.out.trans (Out.of b1))
  clear hP hO hU b1 HRD
  go_upto_region 2 with fail
  rw[← HU.out]
  clear HU
  have T:=zH (take_no p z k r [46] U HPU.out HD1.out)
  go_wp2_with fail
  refine T.out.mono ?_
  rintro e X ⟨rfl,hb⟩
  have HPX:=zH (HPU.out.below hb)
  have NTX:=NT.out.on hb
  have NX:=zH (NVU.out.on hb)
  have PX:=zH (PU.out.trans (Out.of hb))
  obtain⟨c0,c1,c2,c3⟩:=NTX.c4_ rfl
  have fz:=NTX.fz
  clear hb T
  go_wp2_with fail
  refine (text_any ⟨2,n,a,s⟩ X).mono ?_
  rintro e Y ⟨rfl,hb⟩
  have HPY:=zH (HPX.out.below hb)
  have NY:=zH (NX.out.on hb)
  have PY:=zH (PX.out.trans (Out.of hb))
  clear hb
  obtain⟨d0,d1,d2,d3,d4,d5,d6,d7,d8⟩:=NY.out.c9_ rfl
  have fzr:=NY.out.fz
  have ltr:=NY.out.lt
  have HF:=zH (fin9g (w:=w) (V:=Y) (P:=fun _=>False) (b:=w.heap.size) (gr:=w.heap.size) (re:=⟨19,⟨3,0,bsB s⟩,0,0,0,⟨#[]⟩,none,0,0⟩) (Nat.le_refl _) lp (leaf_ex _ _ 19 ⟨3,0,bsB s⟩ 0 ⟨#[]⟩ (okVal_txt hwf.2)) (fun j hj=>hj.elim) HPY.out PY.out)
  go_wp2_with fail
  exact bodyPost_ret (v:=(Value.agg #[.int .i64 19,.int .i64 3,.int .i64 0,.string (bsB s),.int .i64 0,.int .i64 0,.int .i64 0,.string ⟨#[]⟩,.slice none 0 0])) (by simp[results,Tryz.results153,go_sem,d0,d1,d2,d3,d4,d5,d6,d7,d8]) rfl (Ans.mkOk rfl HF.out.1 HF.out.2.1 HF.out.2.2)
set_option maxHeartbeats 4000000 in
theorem col_bad (p z k:Nat) (t td:Tok) (r:List Tok) (hk:t.kd=2) (hd1:hSees [46] (td :: r)=true) (h2:(hd z r).kd≠2) (w:World) (h:PSt w p z (t :: (td :: r)) k):Calls Tryz.prog 153 #[.pointer (some ⟨p,0,none⟩)] w (Ans ExV p z k (bCol z t.s (td :: r)) w):=by
  have lp:=h.lt
  have htk:=h.tk
  have b0:Below w.heap.size w (w.alloc (.cells zExpr.toArray 44)):=ext_alloc (ext_refl _) _
  have N0:=zH (BkA.new w zExpr 44)
  have HP0:=zH (h.below b0)
  have B0:=zH b0
  have HR:bCol z t.s (td :: r)=.err 7 (hAt z r):=by
    unfold bCol
    rw[if_pos hd1]
    cases r with
    | nil=>rfl
    | cons t2 r=>show (if t2.kd=2 then _ else _)=_;exact if_neg h2
  rw[HR]
  have hwf:=hd_wf htk
  have HD1:=zH hd1
  obtain⟨kd,n,a,s⟩:=t
  simp only at hk
  subst hk
  simp only[hd] at hwf
  have HRD:=zH (read_yes p z k ⟨2,n,a,s⟩ (td :: r) 2 _ HP0.out rfl)
  have H2:=zH h2
  clear HR htk h b0 hd1 h2
  go_enter Tryz.func153,Tryz.ntmps153
  go_wp2_with fail
  refine HRD.out.mono ?_
  rintro e V ⟨rfl,hP,hO⟩
  have NV:=zH (N0.out.outs hO (by omega))
  have PV:=zH ((Out.of (S:=fun j=>j=p∨w.heap.size≤j) B0.out).trans hO.up)
  have b1:Below V.heap.size V (V.alloc (.cells #[.int .i64 2,.int .i64 (n:Int),.int .i64 (a:Int),.string (bsB s)] 55)):=ext_alloc (ext_refl _) _
  have NT:=BkA.new V [.int .i64 2,.int .i64 (n:Int),.int .i64 (a:Int),.string (bsB s)] 55
  have hwV:w.heap.size<V.heap.size:=NV.out.lt
  have HPU:=hP.below b1
  have NVU:=NV.out.on b1
  obtain⟨U,hU⟩:∃ U,U=V.alloc (.cells #[.int .i64 2,.int .i64 (n:Int),.int .i64 (a:Int),.string (bsB s)] 55):=⟨_,rfl⟩
  rw[← hU] at b1 NT HPU NVU
  have HU:=zH hU
  have HPU:=zH HPU
  have NT:=zH NT
  have NVU:=zH NVU
  have PU:=zH (PV.out.trans (Out.of b1))
  clear hP hO hU b1 HRD
  go_upto_region 2 with fail
  rw[← HU.out]
  clear HU
  have T:=zH (take_yes p z k td r [46] U HPU.out HD1.out)
  go_wp2_with fail
  refine T.out.mono ?_
  rintro e X ⟨rfl,hP,hO⟩
  have hpV:p<V.heap.size:=by omega
  have HPX:=zH hP
  have NTX:=zH (NT.out.outs hO (by omega))
  have NX:=zH (NVU.out.outs hO (by omega))
  have PX:=zH (PU.out.trans hO.up)
  have hd0:Below X.heap.size X X.drew:=(Below.refl _ _).drew
  have HD:=zH hd0
  have HPD:=zH (hP.below hd0)
  have SA:=zH ((NTX.out.on hd0).c 3 _ rfl)
  have SX:=zH (NTX.out.c 3 _ rfl)
  have PD:=zH (PX.out.trans (Out.of hd0))
  have hVX:V.heap.size<X.heap.size:=NTX.out.lt
  clear hP hO T hd0
  go_upto_region 3 with fail
  refine wp_region_held_drew (S:=fun W'=>W'.cell? ⟨V.heap.size,3,none⟩=some (.string (bsB s))) (by kernel_rfl) SA.out (fun hS=>?_)
  refine wpAnyH_take (i:=0) (v:=.pointer (some ⟨V.heap.size,3,none⟩)) rfl (by kernel_rfl) (by kernel_rfl) (by kernel_rfl) (fun _ _ _ h=>h) (Or.inl ⟨rfl,fun w hw=>?_⟩) hS ?_
  · have a3:=hw
    go_simp
  (try simp only[Act.put,List.setIfInBounds_toArray,List.set_cons_zero,List.set_cons_succ])
  refine wpAnyH_take (i:=1) (v:=.string (bsB s)) rfl (by kernel_rfl) (by kernel_rfl) (by kernel_rfl) (fun _ _ _ h=>h) (Or.inl ⟨rfl,fun w hw=>?_⟩) hS ?_
  · have a3:=hw
    go_simp
  (try simp only[Act.put,List.setIfInBounds_toArray,List.set_cons_zero,List.set_cons_succ])
  refine wpAnyH_take (i:=2) (v:=.pointer (some ⟨p,0,none⟩)) rfl (by kernel_rfl) (by kernel_rfl) (by kernel_rfl) (fun _ _ _ h=>h) (Or.inl ⟨rfl,fun w hw=>?_⟩) hS ?_
  · have a3:=hw
    go_simp
  (try simp only[Act.put,List.setIfInBounds_toArray,List.set_cons_zero,List.set_cons_succ])
  refine wpAnyH_ready (rs:=[3]) (by kernel_rfl) (by decide) (AllReadyH.cons rfl (fun K' _=>?_) AllReadyH.nil)
  refine step_call2p rfl 55 _ _ _ rfl (.pointer (some ⟨p,0,none⟩)) (.int .i64 2) rfl rfl (Tryz.enter_read _ _) ?_
  refine (read_no p z k r 2 X.drew HPD.out H2.out).mono ?_
  rintro e2 Y ⟨rfl,hE2,hO2⟩
  exact⟨_,rfl,rfl,Ans.mkErr rfl hE2 (Out.down (PD.out.trans hO2.up))⟩
set_option maxHeartbeats 4000000 in
theorem col_ok (p z k:Nat) (t td t2:Tok) (r:List Tok) (hk:t.kd=2) (hd1:hSees [46] (td :: t2 :: r)=true) (h2:t2.kd=2) (w:World) (h:PSt w p z (t :: (td :: t2 :: r)) k):Calls Tryz.prog 153 #[.pointer (some ⟨p,0,none⟩)] w (Ans ExV p z k (bCol z t.s (td :: t2 :: r)) w):=by
  have lp:=h.lt
  have htk:=h.tk
  have b0:Below w.heap.size w (w.alloc (.cells zExpr.toArray 44)):=ext_alloc (ext_refl _) _
  have N0:=zH (BkA.new w zExpr 44)
  have HP0:=zH (h.below b0)
  have B0:=zH b0
  have HR:bCol z t.s (td :: t2 :: r)=.ok (.mk 19 (txtV t2.s) 0 0 0 (bsB t.s) []) r:=by unfold bCol;rw[if_pos hd1];show (if t2.kd=2 then _ else _)=_;rw[if_pos h2]
  rw[HR]
  have hwf:=hd_wf htk
  have hwf2:=(htk.wf t2 (by simp)).text
  have HD1:=zH hd1
  obtain⟨kd,n,a,s⟩:=t
  simp only at hk
  subst hk
  simp only[hd] at hwf
  have HRD:=zH (read_yes p z k ⟨2,n,a,s⟩ (td :: t2 :: r) 2 _ HP0.out rfl)
  have H2:=zH h2
  clear HR htk h b0 hd1 h2
  go_enter Tryz.func153,Tryz.ntmps153
  go_wp2_with fail
  refine HRD.out.mono ?_
  rintro e V ⟨rfl,hP,hO⟩
  have NV:=zH (N0.out.outs hO (by omega))
  have PV:=zH ((Out.of (S:=fun j=>j=p∨w.heap.size≤j) B0.out).trans hO.up)
  have b1:Below V.heap.size V (V.alloc (.cells #[.int .i64 2,.int .i64 (n:Int),.int .i64 (a:Int),.string (bsB s)] 55)):=ext_alloc (ext_refl _) _
  have NT:=BkA.new V [.int .i64 2,.int .i64 (n:Int),.int .i64 (a:Int),.string (bsB s)] 55
  have hwV:w.heap.size<V.heap.size:=NV.out.lt
  have HPU:=hP.below b1
  have NVU:=NV.out.on b1
  obtain⟨U,hU⟩:∃ U,U=V.alloc (.cells #[.int .i64 2,.int .i64 (n:Int),.int .i64 (a:Int),.string (bsB s)] 55):=⟨_,rfl⟩
  rw[← hU] at b1 NT HPU NVU
  have HU:=zH hU
  have HPU:=zH HPU
  have NT:=zH NT
  have NVU:=zH NVU
  have PU:=zH (PV.out.trans (Out.of b1))
  clear hP hO hU b1 HRD
  go_upto_region 2 with fail
  rw[← HU.out]
  clear HU
  have T:=zH (take_yes p z k td (t2 :: r) [46] U HPU.out HD1.out)
  go_wp2_with fail
  refine T.out.mono ?_
  rintro e X ⟨rfl,hP,hO⟩
  have hpV:p<V.heap.size:=by omega
  have HPX:=zH hP
  have NTX:=zH (NT.out.outs hO (by omega))
  have NX:=zH (NVU.out.outs hO (by omega))
  have PX:=zH (PU.out.trans hO.up)
  have hd0:Below X.heap.size X X.drew:=(Below.refl _ _).drew
  have HD:=zH hd0
  have HPD:=zH (hP.below hd0)
  have SA:=zH ((NTX.out.on hd0).c 3 _ rfl)
  have SX:=zH (NTX.out.c 3 _ rfl)
  have PD:=zH (PX.out.trans (Out.of hd0))
  have hVX:V.heap.size<X.heap.size:=NTX.out.lt
  clear hP hO T hd0
  go_upto_region 3 with fail
  obtain⟨kd2,n2,a2,s2⟩:=t2
  have hk2:kd2=2:=H2.out
  subst hk2
  have HRR:=zH (read_yes p z k ⟨2,n2,a2,s2⟩ r 2 X.drew HPD.out rfl)
  obtain⟨d0,d1,d2,d3,d4,d5,d6,d7,d8⟩:=NX.out.c9_ rfl
  have fzr:=NX.out.fz
  have x3:=SX.out
  have a3:=SA.out
  have hNX:=NX.out.lt
  go_region_law (first
    |(refine step_call2 rfl 55 _ _ _ rfl (.pointer (some ⟨p,0,none⟩)) (.int .i64 2) rfl rfl (Tryz.enter_read _ _) ?_;refine HRR.out.mono ?_;rintro e2 Y ⟨rfl,hP2,hO2⟩;refine⟨_,rfl,?_⟩;have HPY:=zH hP2;have y3:=(World.cell?_of_block (w:=X.drew) (hO2.block V.heap.size hVX (fun (e:V.heap.size=p)=>by omega))).trans SA.out;have NY:=zH ((NX.out.on HD.out).outs hO2 (fun (e:w.heap.size=p)=>by omega));have PY:=zH (PD.out.trans hO2.up);have hVY:V.heap.size<Y.heap.size:=Nat.lt_of_lt_of_le hVX hO2.size;clear hP2 hO2)
    |(refine step_call1 rfl 152 _ _ rfl (.agg #[.int .i64 2,.int .i64 (n2:Int),.int .i64 (a2:Int),.string (bsB s2)]) rfl (Tryz.enter_text _ _) ?_;refine (text_any ⟨2,n2,a2,s2⟩ Y).mono ?_;rintro e3 Z ⟨rfl,hb⟩;refine⟨_,rfl,?_⟩;have HPZ:=zH (HPY.out.below hb);have v3:=(hb.cell (p:=⟨V.heap.size,3,none⟩) hVY).trans y3;have NZ:=zH (NY.out.on hb);have PZ:=zH (PY.out.trans (Out.of hb));have z0:=NZ.out.c 0 _ rfl;have z1:=NZ.out.c 1 _ rfl;have z2:=NZ.out.c 2 _ rfl;have z3:=NZ.out.c 3 _ rfl;have z4:=NZ.out.c 4 _ rfl;have z5:=NZ.out.c 5 _ rfl;have z6:=NZ.out.c 6 _ rfl;have z7:=NZ.out.c 7 _ rfl;have z8:=NZ.out.c 8 _ rfl;have fzZ:=NZ.out.fz;have ltZ:=NZ.out.lt;clear hb))
  all_goals
   have HF:=zH (fin9g (w:=w) (V:=Z) (P:=fun _=>False) (b:=w.heap.size) (gr:=w.heap.size) (re:=⟨19,⟨3,0,bsB s2⟩,0,0,0,bsB s,none,0,0⟩) (Nat.le_refl _) lp (leaf_ex _ _ 19 ⟨3,0,bsB s2⟩ 0 (bsB s) (okVal_txt hwf2)) (fun j hj=>hj.elim) HPZ.out PZ.out)
   go_wp2_with fail
   exact bodyPost_ret (v:=(Value.agg #[.int .i64 19,.int .i64 3,.int .i64 0,.string (bsB s2),.int .i64 0,.int .i64 0,.int .i64 0,.string (bsB s),.slice none 0 0])) (by simp[results,Tryz.results153,go_sem,z0,z1,z2,z3,z4,z5,z6,z7,z8]) rfl (Ans.mkOk rfl HF.out.1 HF.out.2.1 HF.out.2.2)
theorem column_any (p z k:Nat) (t:Tok) (r:List Tok) (w:World) (h:PSt w p z (t :: r) k) (hk:t.kd=2):Calls Tryz.prog 153 #[.pointer (some ⟨p,0,none⟩)] w (Ans ExV p z k (bCol z t.s r) w):=by
  cases hd1:hSees [46] r with
  | false=>exact col_no p z k t r hk hd1 w h
  | true =>
    obtain⟨td,r1,rfl,-,-⟩:=sees_cons hd1
    by_cases h2:(hd z r1).kd=2
    · cases r1 with
      | nil=>simp[hd,endTok] at h2
      | cons t2 r2=>exact col_ok p z k t td t2 r2 hk hd1 h2 w h
    · exact col_bad p z k t td r1 hk hd1 h2 w h
theorem nullness_any (p z k b:Nat) (l:List Tok) (x:Ex) (re:RawE) (w:World) (h:PSt w p z l k) (hx:ExMP w (fun j=>b≤j) x re.cells) (hb:b≤w.heap.size) (hpb:p<b):Calls Tryz.prog 121 #[.pointer (some ⟨p,0,none⟩),(Value.agg #[.int .i64 re.op,.int .i64 re.v.k,.int .i64 re.v.n,.string re.v.s,.int .i64 re.rel,.int .i64 re.col,.int .i64 re.n,.string re.s,.slice re.q re.len re.c])] w (Ans (fun _=>ExV b) p z k (bNull z x l) w):=by
  cases hn:hSees kwNot l with
  | true =>
    obtain⟨tn,rn,rfl,-,-⟩:=sees_cons hn
    cases hu:hSees kwNull rn with
    | true =>
      obtain⟨t2,r2,rfl,-,-⟩:=sees_cons hu
      exact null_yy p z k b tn t2 r2 x re w h hx hb hpb hn hu
    | false=>exact null_yn p z k b tn rn x re w h hx hb hpb hn hu
  | false =>
    cases hu:hSees kwNull l with
    | true =>
      obtain⟨t2,r2,rfl,-,-⟩:=sees_cons hu
      exact null_ny p z k b t2 r2 x re w h hx hb hpb hn hu
    | false=>exact null_nn p z k b l x re w h hx hb hpb hn hu
set_option maxHeartbeats 4000000 in
theorem atom_name_err (p z k:Nat) (orr:Rd Ex) (t:Tok) (r:List Tok) (w:World) (h:PSt w p z (t :: r) k) (hk:t.kd=2) (er a0:Nat) (hr:bCol z t.s r=.err er a0):Calls Tryz.prog 143 #[.pointer (some ⟨p,0,none⟩)] w (Ans ExV p z k (bAtom z orr (t :: r)) w):=by
  have lp:=h.lt
  have htk:=h.tk
  have b0:Below w.heap.size w (w.alloc (.cells zExpr.toArray 44)):=ext_alloc (ext_refl _) _
  have N0:=zH (BkA.new w zExpr 44)
  have HP0:=zH (h.below b0)
  have B0:=zH b0
  have HR:bAtom z orr (t :: r)=.err er a0:=by rw[bAtom,if_neg (by omega),if_neg (by omega),if_neg (by omega),if_pos hk,hr]
  rw[HR]
  have HCR:=zH hr
  obtain⟨kd,n,a,s⟩:=t
  simp only at hk
  subst hk
  clear HR htk hr
  have H:=zH (look_any p z k (⟨2,n,a,s⟩ :: r) _ HP0.out)
  simp only[hd] at H
  clear h b0
  go_enter Tryz.func143,Tryz.ntmps143
  go_wp2_with fail
  refine H.out.mono ?_
  rintro e V ⟨rfl,hb⟩
  have HPV:=zH (HP0.out.below hb)
  have BV:=zH (B0.out.trans (hb.mono B0.out.size))
  have NV:=zH (N0.out.on hb)
  have hfk:=fun w=>Tryz.tokKind 2 n a (bsB s) w
  have hfn:=fun w=>Tryz.tokN 2 n a (bsB s) w
  have hwV:w.heap.size<V.heap.size:=NV.out.lt
  clear hb H
  have CC:=zH (column_any p z k ⟨2,n,a,s⟩ r V HPV.out rfl)
  go_wp2_with fail
  refine CC.out.mono ?_
  intro e Y hA
  obtain⟨rfl,hE,hO⟩:=hA.err HCR.out
  go_wp2_with fail
  exact⟨rfl,Ans.mkErr rfl hE ((Out.of BV.out).trans hO)⟩
set_option maxHeartbeats 4000000 in
theorem atom_name_ok (p z k:Nat) (orr:Rd Ex) (t:Tok) (r:List Tok) (w:World) (h:PSt w p z (t :: r) k) (hk:t.kd=2) (x:Ex) (r2:List Tok) (hr:bCol z t.s r=.ok x r2):Calls Tryz.prog 143 #[.pointer (some ⟨p,0,none⟩)] w (Ans ExV p z k (bAtom z orr (t :: r)) w):=by
  have lp:=h.lt
  have htk:=h.tk
  have b0:Below w.heap.size w (w.alloc (.cells zExpr.toArray 44)):=ext_alloc (ext_refl _) _
  have N0:=zH (BkA.new w zExpr 44)
  have HP0:=zH (h.below b0)
  have B0:=zH b0
  have HR:bAtom z orr (t :: r)=.ok x r2:=by rw[bAtom,if_neg (by omega),if_neg (by omega),if_neg (by omega),if_pos hk,hr]
  rw[HR]
  have HCR:=zH hr
  obtain⟨kd,n,a,s⟩:=t
  simp only at hk
  subst hk
  clear HR htk hr
  have H:=zH (look_any p z k (⟨2,n,a,s⟩ :: r) _ HP0.out)
  simp only[hd] at H
  clear h b0
  go_enter Tryz.func143,Tryz.ntmps143
  go_wp2_with fail
  refine H.out.mono ?_
  rintro e V ⟨rfl,hb⟩
  have HPV:=zH (HP0.out.below hb)
  have BV:=zH (B0.out.trans (hb.mono B0.out.size))
  have NV:=zH (N0.out.on hb)
  have hfk:=fun w=>Tryz.tokKind 2 n a (bsB s) w
  have hfn:=fun w=>Tryz.tokN 2 n a (bsB s) w
  have hwV:w.heap.size<V.heap.size:=NV.out.lt
  clear hb H
  have CC:=zH (column_any p z k ⟨2,n,a,s⟩ r V HPV.out rfl)
  go_wp2_with fail
  refine CC.out.mono ?_
  intro e Y hA
  obtain⟨⟨v,rfl,⟨⟨fop,⟨fvk,fvn,fvs⟩,frel,fcol,fn,fs,fq,flen,fc⟩,rfl,hx⟩⟩,hP,hO⟩:=hA.ok HCR.out
  have NY:=NV.out.outs hO (by omega)
  obtain⟨d0,d1,d2,d3,d4,d5,d6,d7,d8⟩:=NY.c9_ rfl
  have fzr:=NY.fz
  have HF:=zH (fin9g (w:=w) (b:=w.heap.size) (gr:=w.heap.size) (Nat.le_refl _) lp hx (fun j hj=>⟨by omega,by omega⟩) hP ((Out.of BV.out).trans hO.up))
  clear hx hP hO hA NY
  go_wp2_with fail
  exact bodyPost_ret (v:=(Value.agg #[.int .i64 fop,.int .i64 fvk,.int .i64 fvn,.string fvs,.int .i64 frel,.int .i64 fcol,.int .i64 fn,.string fs,.slice fq flen fc])) (by simp[results,Tryz.results143,go_sem,d0,d1,d2,d3,d4,d5,d6,d7,d8]) rfl (Ans.mkOk rfl HF.out.1 HF.out.2.1 HF.out.2.2)
theorem atom_any (p z k:Nat) (orr:Rd Ex) (ho:Shr orr) (hC:RdC 52 p z k orr):RdC 143 p z k (bAtom z orr):=by
  intro l w h
  by_cases k3:(hd z l).kd=3
  · cases l with
    | nil=>simp[hd,endTok] at k3
    | cons t r=>exact atom_num p z k orr t r w h k3
  by_cases k4:(hd z l).kd=4
  · cases l with
    | nil=>simp[hd,endTok] at k4
    | cons t r=>exact atom_text p z k orr t r w h k4
  by_cases k5:(hd z l).kd=5
  · cases l with
    | nil=>simp[hd,endTok] at k5
    | cons t r=>exact atom_param p z k orr t r w h k5
  by_cases k2:(hd z l).kd=2
  · cases l with
    | nil=>simp[hd,endTok] at k2
    | cons t r =>
      cases hr:bCol z t.s r with
      | err er a0=>exact atom_name_err p z k orr t r w h k2 er a0 hr
      | ok x r2=>exact atom_name_ok p z k orr t r w h k2 x r2 hr
  cases s0:hSees kwTrue l with
  | true =>
    obtain⟨t,r,rfl,-,-⟩:=sees_cons s0
    exact atom_true p z k orr t r w h k2 k3 k4 k5 s0
  | false =>
  cases s1:hSees kwFalse l with
  | true =>
    obtain⟨t,r,rfl,-,-⟩:=sees_cons s1
    exact atom_false p z k orr t r w h k2 k3 k4 k5 s0 s1
  | false =>
  cases s2:hSees kwNull l with
  | true =>
    obtain⟨t,r,rfl,-,-⟩:=sees_cons s2
    exact atom_null p z k orr t r w h k2 k3 k4 k5 s0 s1 s2
  | false =>
  cases s3:hSees [40] l with
  | false=>exact atom_bad p z k orr l w h k2 k3 k4 k5 s0 s1 s2 s3
  | true =>
    obtain⟨t,r,rfl,-,-⟩:=sees_cons s3
    cases hr:orr r with
    | err er a0=>exact atom_paren_err p z k orr t r ho hC w h k2 k3 k4 k5 s0 s1 s2 s3 er a0 hr
    | ok x r2 =>
      cases hn:hSees [41] r2 with
      | false=>exact atom_paren_nop p z k orr t r ho hC w h k2 k3 k4 k5 s0 s1 s2 s3 x r2 hr hn
      | true =>
        obtain⟨t3,r3,rfl,-,-⟩:=sees_cons hn
        exact atom_paren_ok p z k orr t r ho hC w h k2 k3 k4 k5 s0 s1 s2 s3 x t3 r3 hr hn
theorem Tryz.enter_sum (args:Array Value) (w:World):(callFunc 120 args).run Tryz.prog w=.ok (.enter 120 args) w:=by kernel_rfl
set_option maxHeartbeats 4000000 in
theorem test_serr (p z k:Nat) (sg:Rd Ex) (hC:RdC 120 p z k (bSum sg)) (l:List Tok) (w:World) (h:PSt w p z l k) (er a0:Nat) (hs:bSum sg l=.err er a0):Calls Tryz.prog 106 #[.pointer (some ⟨p,0,none⟩)] w (Ans ExV p z k (bTest z sg l) w):=by
  have lp:=h.lt
  have htk:=h.tk
  have b0:Below w.heap.size w (w.alloc (.cells zExpr.toArray 44)):=ext_alloc (ext_refl _) _
  have N0:=zH (BkA.new w zExpr 44)
  have HP0:=zH (h.below b0)
  have B0:=zH b0
  have HR:bTest z sg l=.err er a0:=by unfold bTest;rw[hs];rfl
  rw[HR]
  have HHS:=zH hs
  have HCC:=zH hC
  have C0:=zH (hC l _ HP0.out)
  clear HR htk h b0 hC hs
  go_enter Tryz.func106,Tryz.ntmps106
  go_wp2_with fail
  refine C0.out.mono ?_
  intro e V hA
  obtain⟨rfl,hE,hO⟩:=hA.err HHS.out
  go_wp2_with fail
  exact⟨rfl,Ans.mkErr rfl hE ((Out.of B0.out).trans hO)⟩
set_option maxHeartbeats 4000000 in
theorem test_nerr (p z k:Nat) (sg:Rd Ex) (hC:RdC 120 p z k (bSum sg)) (l:List Tok) (w:World) (h:PSt w p z l k) (x:Ex) (t:Tok) (r:List Tok) (hs:bSum sg l=.ok x (t :: r)) (hi:hSees kwIs (t :: r)=true) (er a0:Nat) (hn:bNull z x r=.err er a0):Calls Tryz.prog 106 #[.pointer (some ⟨p,0,none⟩)] w (Ans ExV p z k (bTest z sg l) w):=by
  have lp:=h.lt
  have htk:=h.tk
  have b0:Below w.heap.size w (w.alloc (.cells zExpr.toArray 44)):=ext_alloc (ext_refl _) _
  have N0:=zH (BkA.new w zExpr 44)
  have HP0:=zH (h.below b0)
  have B0:=zH b0
  have HR:bTest z sg l=.err er a0:=by unfold bTest;rw[hs,bind_ok,if_pos hi];exact hn
  rw[HR]
  have HHS:=zH hs
  have HHI:=zH hi
  have HHN:=zH hn
  have HCC:=zH hC
  have C0:=zH (hC l _ HP0.out)
  clear HR htk h b0 hC hs hi hn
  go_enter Tryz.func106,Tryz.ntmps106
  go_wp2_with fail
  refine C0.out.mono ?_
  intro e V hA
  obtain⟨⟨v,rfl,⟨⟨fop,⟨fvk,fvn,fvs⟩,frel,fcol,fn,fs,fq,flen,fc⟩,rfl,hx⟩⟩,hP,hO⟩:=hA.ok HHS.out
  have NV:=N0.out.outs hO (by omega)
  have PV:=(Out.of (S:=fun j=>j=p∨w.heap.size≤j) B0.out).trans hO.up
  have hwV:w.heap.size<V.heap.size:=NV.lt
  have b1:Below V.heap.size V (V.alloc (.cells #[.int .i64 fop,.int .i64 fvk,.int .i64 fvn,.string fvs,.int .i64 frel,.int .i64 fcol,.int .i64 fn,.string fs,.slice fq flen fc] 44)):=ext_alloc (ext_refl _) _
  have NE:=BkA.new V [.int .i64 fop,.int .i64 fvk,.int .i64 fvn,.string fvs,.int .i64 frel,.int .i64 fcol,.int .i64 fn,.string fs,.slice fq flen fc] 44
  have HXU:=ExMP.on (Q:=fun j=>w.heap.size<j∧j≠V.heap.size) b1.size (fun j _ hj=>b1.block j hj) (fun j hj hl=>⟨by have:(w.alloc (.cells zExpr.toArray 44)).heap.size=w.heap.size+1:=(by simp);omega,by omega⟩) _ _ hx
  have HPU:=hP.below b1
  have NVU:=NV.on b1
  obtain⟨U,hU⟩:∃ U,U=V.alloc (.cells #[.int .i64 fop,.int .i64 fvk,.int .i64 fvn,.string fvs,.int .i64 frel,.int .i64 fcol,.int .i64 fn,.string fs,.slice fq flen fc] 44):=⟨_,rfl⟩
  rw[← hU] at b1 NE HXU HPU NVU
  have HU:=zH hU
  have HPU:=zH HPU
  have NE:=zH NE
  have HXU:=zH HXU
  have NVU:=zH NVU
  have PU:=zH (PV.trans (Out.of b1))
  have hpV:p<V.heap.size:=by omega
  clear hx hP hO hA C0 hU b1 NV PV
  go_upto_region 2 with fail
  rw[← HU.out]
  clear HU
  have TK:=zH (take_yes p z k t r kwIs U HPU.out HHI.out)
  go_wp2_with fail
  refine TK.out.mono ?_
  rintro e X ⟨rfl,hP,hO⟩
  have NEX:=NE.out.outs hO (by omega)
  have NX:=zH (NVU.out.outs hO (by omega))
  have HXX:=ExMP.on (Q:=fun j=>w.heap.size<j) hO.size (fun j hj hl=>hO.block j hl (fun (e:j=p)=>by have:=hj.1;omega)) (fun _ h _=>h.1) _ _ HXU.out
  have PX:=zH (PU.out.trans hO.up)
  have hwX:w.heap.size<X.heap.size:=NX.out.lt
  have CN:=zH (nullness_any p z k (w.heap.size+1) r x ⟨fop,⟨fvk,fvn,fvs⟩,frel,fcol,fn,fs,fq,flen,fc⟩ X hP HXX (by omega) (by omega))
  obtain⟨c0,c1,c2,c3,c4,c5,c6,c7,c8⟩:=NEX.c9_ rfl
  have fz:=NEX.fz
  clear hP hO TK HXX NEX
  go_wp2_with fail
  refine CN.out.mono ?_
  intro e Y hA
  obtain⟨rfl,hE,hO⟩:=hA.err HHN.out
  go_wp2_with fail
  exact⟨rfl,Ans.mkErr rfl hE (Out.down (PX.out.trans hO.up))⟩
set_option maxHeartbeats 4000000 in
theorem test_nok (p z k:Nat) (sg:Rd Ex) (hC:RdC 120 p z k (bSum sg)) (l:List Tok) (w:World) (h:PSt w p z l k) (x y:Ex) (t:Tok) (r r2:List Tok) (hs:bSum sg l=.ok x (t :: r)) (hi:hSees kwIs (t :: r)=true) (hn:bNull z x r=.ok y r2):Calls Tryz.prog 106 #[.pointer (some ⟨p,0,none⟩)] w (Ans ExV p z k (bTest z sg l) w):=by
  have lp:=h.lt
  have htk:=h.tk
  have b0:Below w.heap.size w (w.alloc (.cells zExpr.toArray 44)):=ext_alloc (ext_refl _) _
  have N0:=zH (BkA.new w zExpr 44)
  have HP0:=zH (h.below b0)
  have B0:=zH b0
  have HR:bTest z sg l=.ok y r2:=by unfold bTest;rw[hs,bind_ok,if_pos hi];exact hn
  rw[HR]
  have HHS:=zH hs
  have HHI:=zH hi
  have HHN:=zH hn
  have HCC:=zH hC
  have C0:=zH (hC l _ HP0.out)
  clear HR htk h b0 hC hs hi hn
  go_enter Tryz.func106,Tryz.ntmps106
  go_wp2_with fail
  refine C0.out.mono ?_
  intro e V hA
  obtain⟨⟨v,rfl,⟨⟨fop,⟨fvk,fvn,fvs⟩,frel,fcol,fn,fs,fq,flen,fc⟩,rfl,hx⟩⟩,hP,hO⟩:=hA.ok HHS.out
  have NV:=N0.out.outs hO (by omega)
  have PV:=(Out.of (S:=fun j=>j=p∨w.heap.size≤j) B0.out).trans hO.up
  have hwV:w.heap.size<V.heap.size:=NV.lt
  have b1:Below V.heap.size V (V.alloc (.cells #[.int .i64 fop,.int .i64 fvk,.int .i64 fvn,.string fvs,.int .i64 frel,.int .i64 fcol,.int .i64 fn,.string fs,.slice fq flen fc] 44)):=ext_alloc (ext_refl _) _
  have NE:=BkA.new V [.int .i64 fop,.int .i64 fvk,.int .i64 fvn,.string fvs,.int .i64 frel,.int .i64 fcol,.int .i64 fn,.string fs,.slice fq flen fc] 44
  have HXU:=ExMP.on (Q:=fun j=>w.heap.size<j∧j≠V.heap.size) b1.size (fun j _ hj=>b1.block j hj) (fun j hj hl=>⟨by have:(w.alloc (.cells zExpr.toArray 44)).heap.size=w.heap.size+1:=(by simp);omega,by omega⟩) _ _ hx
  have HPU:=hP.below b1
  have NVU:=NV.on b1
  obtain⟨U,hU⟩:∃ U,U=V.alloc (.cells #[.int .i64 fop,.int .i64 fvk,.int .i64 fvn,.string fvs,.int .i64 frel,.int .i64 fcol,.int .i64 fn,.string fs,.slice fq flen fc] 44):=⟨_,rfl⟩
  rw[← hU] at b1 NE HXU HPU NVU
  have HU:=zH hU
  have HPU:=zH HPU
  have NE:=zH NE
  have HXU:=zH HXU
  have NVU:=zH NVU
  have PU:=zH (PV.trans (Out.of b1))
  have hpV:p<V.heap.size:=by omega
  clear hx hP hO hA C0 hU b1 NV PV
  go_upto_region 2 with fail
  rw[← HU.out]
  clear HU
  have TK:=zH (take_yes p z k t r kwIs U HPU.out HHI.out)
  go_wp2_with fail
  refine TK.out.mono ?_
  rintro e X ⟨rfl,hP,hO⟩
  have NEX:=NE.out.outs hO (by omega)
  have NX:=zH (NVU.out.outs hO (by omega))
  have HXX:=ExMP.on (Q:=fun j=>w.heap.size<j) hO.size (fun j hj hl=>hO.block j hl (fun (e:j=p)=>by have:=hj.1;omega)) (fun _ h _=>h.1) _ _ HXU.out
  have PX:=zH (PU.out.trans hO.up)
  have hwX:w.heap.size<X.heap.size:=NX.out.lt
  have CN:=zH (nullness_any p z k (w.heap.size+1) r x ⟨fop,⟨fvk,fvn,fvs⟩,frel,fcol,fn,fs,fq,flen,fc⟩ X hP HXX (by omega) (by omega))
  obtain⟨c0,c1,c2,c3,c4,c5,c6,c7,c8⟩:=NEX.c9_ rfl
  have fz:=NEX.fz
  clear hP hO TK HXX NEX
  go_wp2_with fail
  refine CN.out.mono ?_
  intro e Y hA
  obtain⟨⟨v,rfl,⟨⟨gop,⟨gvk,gvn,gvs⟩,grel,gcol,gn,gs,gq,glen,gc⟩,rfl,hy⟩⟩,hP,hO⟩:=hA.ok HHN.out
  have NY:=NX.out.outs hO (by omega)
  clear c0 c1 c2 c3 c4 c5 c6 c7 c8 fz
  obtain⟨d0,d1,d2,d3,d4,d5,d6,d7,d8⟩:=NY.c9_ rfl
  have fzr:=NY.fz
  have ltr:=NY.lt
  have HF:=zH (fin9g (w:=w) (b:=w.heap.size) (gr:=w.heap.size) (Nat.le_refl _) lp hy (fun j hj=>⟨by omega,by omega⟩) hP (PX.out.trans hO.up))
  clear hy hP hO hA NY
  go_wp2_with fail
  exact bodyPost_ret (v:=(Value.agg #[.int .i64 gop,.int .i64 gvk,.int .i64 gvn,.string gvs,.int .i64 grel,.int .i64 gcol,.int .i64 gn,.string gs,.slice gq glen gc])) (by simp[results,Tryz.results106,go_sem,d0,d1,d2,d3,d4,d5,d6,d7,d8]) rfl (Ans.mkOk rfl HF.out.1 HF.out.2.1 HF.out.2.2)
set_option maxHeartbeats 4000000 in
theorem test_none (p z k:Nat) (sg:Rd Ex) (hC:RdC 120 p z k (bSum sg)) (l:List Tok) (w:World) (h:PSt w p z l k) (x:Ex) (r:List Tok) (hs:bSum sg l=.ok x r) (hi:hSees kwIs r=false) (ho:opOf opsCmp r=none):Calls Tryz.prog 106 #[.pointer (some ⟨p,0,none⟩)] w (Ans ExV p z k (bTest z sg l) w):=by
  have lp:=h.lt
  have htk:=h.tk
  have b0:Below w.heap.size w (w.alloc (.cells zExpr.toArray 44)):=ext_alloc (ext_refl _) _
  have N0:=zH (BkA.new w zExpr 44)
  have HP0:=zH (h.below b0)
  have B0:=zH b0
  have HR:bTest z sg l=.ok x r:=by unfold bTest;rw[hs,bind_ok,if_neg (by rw[hi];decide),ho]
  rw[HR]
  have HHS:=zH hs
  have HHI:=zH hi
  have HHO:=zH ho
  have HCC:=zH hC
  have C0:=zH (hC l _ HP0.out)
  clear HR htk h b0 hC hs hi ho
  go_enter Tryz.func106,Tryz.ntmps106
  go_wp2_with fail
  refine C0.out.mono ?_
  intro e V hA
  obtain⟨⟨v,rfl,⟨⟨fop,⟨fvk,fvn,fvs⟩,frel,fcol,fn,fs,fq,flen,fc⟩,rfl,hx⟩⟩,hP,hO⟩:=hA.ok HHS.out
  have NV:=N0.out.outs hO (by omega)
  have PV:=(Out.of (S:=fun j=>j=p∨w.heap.size≤j) B0.out).trans hO.up
  have hwV:w.heap.size<V.heap.size:=NV.lt
  have b1:Below V.heap.size V (V.alloc (.cells #[.int .i64 fop,.int .i64 fvk,.int .i64 fvn,.string fvs,.int .i64 frel,.int .i64 fcol,.int .i64 fn,.string fs,.slice fq flen fc] 44)):=ext_alloc (ext_refl _) _
  have NE:=BkA.new V [.int .i64 fop,.int .i64 fvk,.int .i64 fvn,.string fvs,.int .i64 frel,.int .i64 fcol,.int .i64 fn,.string fs,.slice fq flen fc] 44
  have HXU:=ExMP.on (Q:=fun j=>w.heap.size<j∧j≠V.heap.size) b1.size (fun j _ hj=>b1.block j hj) (fun j hj hl=>⟨by have:(w.alloc (.cells zExpr.toArray 44)).heap.size=w.heap.size+1:=(by simp);omega,by omega⟩) _ _ hx
  have HPU:=hP.below b1
  have NVU:=NV.on b1
  obtain⟨U,hU⟩:∃ U,U=V.alloc (.cells #[.int .i64 fop,.int .i64 fvk,.int .i64 fvn,.string fvs,.int .i64 frel,.int .i64 fcol,.int .i64 fn,.string fs,.slice fq flen fc] 44):=⟨_,rfl⟩
  rw[← hU] at b1 NE HXU HPU NVU
  have HU:=zH hU
  have HPU:=zH HPU
  have NE:=zH NE
  have HXU:=zH HXU
  have NVU:=zH NVU
  have PU:=zH (PV.trans (Out.of b1))
  have hpV:p<V.heap.size:=by omega
  clear hx hP hO hA C0 hU b1 NV PV
  go_upto_region 2 with fail
  rw[← HU.out]
  clear HU
  have TK:=zH (take_no p z k r kwIs U HPU.out HHI.out)
  go_wp2_with fail
  refine TK.out.mono ?_
  rintro e X0 ⟨rfl,hb⟩
  have b2:Below X0.heap.size X0 (X0.alloc (.cells #[.string ⟨#[61]⟩,.int .i64 9,.string ⟨#[60,62]⟩,.int .i64 10,.string ⟨#[60]⟩,.int .i64 11,.string ⟨#[60,61]⟩,.int .i64 12,.string ⟨#[62]⟩,.int .i64 13,.string ⟨#[62,61]⟩,.int .i64 14] 127)):=ext_alloc (ext_refl _) _
  have hVX0:V.heap.size<X0.heap.size:=Nat.lt_of_lt_of_le NE.out.lt hb.size
  have NO:=BkA.new X0 [.string ⟨#[61]⟩,.int .i64 9,.string ⟨#[60,62]⟩,.int .i64 10,.string ⟨#[60]⟩,.int .i64 11,.string ⟨#[60,61]⟩,.int .i64 12,.string ⟨#[62]⟩,.int .i64 13,.string ⟨#[62,61]⟩,.int .i64 14] 127
  have HOP:OpsM (X0.alloc (.cells #[.string ⟨#[61]⟩,.int .i64 9,.string ⟨#[60,62]⟩,.int .i64 10,.string ⟨#[60]⟩,.int .i64 11,.string ⟨#[60,61]⟩,.int .i64 12,.string ⟨#[62]⟩,.int .i64 13,.string ⟨#[62,61]⟩,.int .i64 14] 127)) p X0.heap.size opsCmp:=by
    refine⟨NO.lt,by omega,fun j s op hj=>?_⟩
    match j,hj with
    | 0,hj=>cases hj;exact⟨NO.c 0 _ rfl,NO.c 1 _ rfl⟩
    | 1,hj=>cases hj;exact⟨NO.c 2 _ rfl,NO.c 3 _ rfl⟩
    | 2,hj=>cases hj;exact⟨NO.c 4 _ rfl,NO.c 5 _ rfl⟩
    | 3,hj=>cases hj;exact⟨NO.c 6 _ rfl,NO.c 7 _ rfl⟩
    | 4,hj=>cases hj;exact⟨NO.c 8 _ rfl,NO.c 9 _ rfl⟩
    | 5,hj=>cases hj;exact⟨NO.c 10 _ rfl,NO.c 11 _ rfl⟩
    | j+6,hj=>cases hj
  have HPX:=zH ((HPU.out.below hb).below b2)
  have NEX:=zH ((NE.out.on hb).on b2)
  have NX:=zH ((NVU.out.on hb).on b2)
  have hbb:=hb.trans (b2.mono hb.size)
  have HXX:=zH (ExMP.below hbb HXU.out)
  have PX:=zH (PU.out.trans (Out.of hbb))
  have OPC:=zH (operation_any p z k X0.heap.size 6 r opsCmp _ HPX.out HOP (by decide))
  clear hb b2 NO HOP hbb TK
  go_wp2_with fail
  refine OPC.out.mono ?_
  intro e1 Y hA
  obtain⟨rfl,hb⟩:=hA.none HHO.out
  have NEY:=NEX.out.on hb
  have NY:=NX.out.on hb
  have HXY:=zH (ExMP.below hb HXX.out)
  obtain⟨c0,c1,c2,c3,c4,c5,c6,c7,c8⟩:=NEY.c9_ rfl
  have fz:=NEY.fz
  have lte:=NEY.lt
  obtain⟨d0,d1,d2,d3,d4,d5,d6,d7,d8⟩:=NY.c9_ rfl
  have fzr:=NY.fz
  have ltr:=NY.lt
  have HF:=zH (fin9g (w:=w) (b:=w.heap.size) (gr:=w.heap.size) (Nat.le_refl _) lp HXY.out (fun j hj=>⟨by omega,by omega⟩) (HPX.out.below hb) (PX.out.trans (Out.of hb)))
  clear hb hA NEY NY
  go_wp2_with fail
  exact bodyPost_ret (v:=(Value.agg #[.int .i64 fop,.int .i64 fvk,.int .i64 fvn,.string fvs,.int .i64 frel,.int .i64 fcol,.int .i64 fn,.string fs,.slice fq flen fc])) (by simp[results,Tryz.results106,go_sem,d0,d1,d2,d3,d4,d5,d6,d7,d8]) rfl (Ans.mkOk rfl HF.out.1 HF.out.2.1 HF.out.2.2)
set_option maxHeartbeats 4000000 in
theorem test_oerr (p z k:Nat) (sg:Rd Ex) (hC:RdC 120 p z k (bSum sg)) (l:List Tok) (w:World) (h:PSt w p z l k) (x:Ex) (r:List Tok) (op:Int) (hs:bSum sg l=.ok x r) (hi:hSees kwIs r=false) (ho:opOf opsCmp r=some op) (er a0:Nat) (h2:bSum sg r.tail=.err er a0):Calls Tryz.prog 106 #[.pointer (some ⟨p,0,none⟩)] w (Ans ExV p z k (bTest z sg l) w):=by
  have lp:=h.lt
  have htk:=h.tk
  have b0:Below w.heap.size w (w.alloc (.cells zExpr.toArray 44)):=ext_alloc (ext_refl _) _
  have N0:=zH (BkA.new w zExpr 44)
  have HP0:=zH (h.below b0)
  have B0:=zH b0
  have HR:bTest z sg l=.err er a0:=by unfold bTest;rw[hs,bind_ok,if_neg (by rw[hi];decide),ho];dsimp only;rw[h2];rfl
  rw[HR]
  have HHS:=zH hs
  have HHI:=zH hi
  have HHO:=zH ho
  have HH2:=zH h2
  have HCC:=zH hC
  have C0:=zH (hC l _ HP0.out)
  clear HR htk h b0 hC hs hi ho h2
  go_enter Tryz.func106,Tryz.ntmps106
  go_wp2_with fail
  refine C0.out.mono ?_
  intro e V hA
  obtain⟨⟨v,rfl,⟨⟨fop,⟨fvk,fvn,fvs⟩,frel,fcol,fn,fs,fq,flen,fc⟩,rfl,hx⟩⟩,hP,hO⟩:=hA.ok HHS.out
  have NV:=N0.out.outs hO (by omega)
  have PV:=(Out.of (S:=fun j=>j=p∨w.heap.size≤j) B0.out).trans hO.up
  have hwV:w.heap.size<V.heap.size:=NV.lt
  have b1:Below V.heap.size V (V.alloc (.cells #[.int .i64 fop,.int .i64 fvk,.int .i64 fvn,.string fvs,.int .i64 frel,.int .i64 fcol,.int .i64 fn,.string fs,.slice fq flen fc] 44)):=ext_alloc (ext_refl _) _
  have NE:=BkA.new V [.int .i64 fop,.int .i64 fvk,.int .i64 fvn,.string fvs,.int .i64 frel,.int .i64 fcol,.int .i64 fn,.string fs,.slice fq flen fc] 44
  have HXU:=ExMP.on (Q:=fun j=>w.heap.size<j∧j≠V.heap.size) b1.size (fun j _ hj=>b1.block j hj) (fun j hj hl=>⟨by have:(w.alloc (.cells zExpr.toArray 44)).heap.size=w.heap.size+1:=(by simp);omega,by omega⟩) _ _ hx
  have HPU:=hP.below b1
  have NVU:=NV.on b1
  obtain⟨U,hU⟩:∃ U,U=V.alloc (.cells #[.int .i64 fop,.int .i64 fvk,.int .i64 fvn,.string fvs,.int .i64 frel,.int .i64 fcol,.int .i64 fn,.string fs,.slice fq flen fc] 44):=⟨_,rfl⟩
  rw[← hU] at b1 NE HXU HPU NVU
  have HU:=zH hU
  have HPU:=zH HPU
  have NE:=zH NE
  have HXU:=zH HXU
  have NVU:=zH NVU
  have PU:=zH (PV.trans (Out.of b1))
  have hpV:p<V.heap.size:=by omega
  clear hx hP hO hA C0 hU b1 NV PV
  go_upto_region 2 with fail
  rw[← HU.out]
  clear HU
  have TK:=zH (take_no p z k r kwIs U HPU.out HHI.out)
  go_wp2_with fail
  refine TK.out.mono ?_
  rintro e X0 ⟨rfl,hb⟩
  have b2:Below X0.heap.size X0 (X0.alloc (.cells #[.string ⟨#[61]⟩,.int .i64 9,.string ⟨#[60,62]⟩,.int .i64 10,.string ⟨#[60]⟩,.int .i64 11,.string ⟨#[60,61]⟩,.int .i64 12,.string ⟨#[62]⟩,.int .i64 13,.string ⟨#[62,61]⟩,.int .i64 14] 127)):=ext_alloc (ext_refl _) _
  have hVX0:V.heap.size<X0.heap.size:=Nat.lt_of_lt_of_le NE.out.lt hb.size
  have NO:=BkA.new X0 [.string ⟨#[61]⟩,.int .i64 9,.string ⟨#[60,62]⟩,.int .i64 10,.string ⟨#[60]⟩,.int .i64 11,.string ⟨#[60,61]⟩,.int .i64 12,.string ⟨#[62]⟩,.int .i64 13,.string ⟨#[62,61]⟩,.int .i64 14] 127
  have HOP:OpsM (X0.alloc (.cells #[.string ⟨#[61]⟩,.int .i64 9,.string ⟨#[60,62]⟩,.int .i64 10,.string ⟨#[60]⟩,.int .i64 11,.string ⟨#[60,61]⟩,.int .i64 12,.string ⟨#[62]⟩,.int .i64 13,.string ⟨#[62,61]⟩,.int .i64 14] 127)) p X0.heap.size opsCmp:=by
    refine⟨NO.lt,by omega,fun j s op hj=>?_⟩
    match j,hj with
    | 0,hj=>cases hj;exact⟨NO.c 0 _ rfl,NO.c 1 _ rfl⟩
    | 1,hj=>cases hj;exact⟨NO.c 2 _ rfl,NO.c 3 _ rfl⟩
    | 2,hj=>cases hj;exact⟨NO.c 4 _ rfl,NO.c 5 _ rfl⟩
    | 3,hj=>cases hj;exact⟨NO.c 6 _ rfl,NO.c 7 _ rfl⟩
    | 4,hj=>cases hj;exact⟨NO.c 8 _ rfl,NO.c 9 _ rfl⟩
    | 5,hj=>cases hj;exact⟨NO.c 10 _ rfl,NO.c 11 _ rfl⟩
    | j+6,hj=>cases hj
  have HPX:=zH ((HPU.out.below hb).below b2)
  have NEX:=zH ((NE.out.on hb).on b2)
  have NX:=zH ((NVU.out.on hb).on b2)
  have hbb:=hb.trans (b2.mono hb.size)
  have HXX:=zH (ExMP.below hbb HXU.out)
  have PX:=zH (PU.out.trans (Out.of hbb))
  have OPC:=zH (operation_any p z k X0.heap.size 6 r opsCmp _ HPX.out HOP (by decide))
  clear hb b2 NO HOP hbb TK
  go_wp2_with fail
  refine OPC.out.mono ?_
  intro e1 Y hA
  obtain⟨rfl,hP,hO⟩:=hA.some HHO.out
  have hd0:Below Y.heap.size Y Y.drew:=(Below.refl _ _).drew
  have HD:=zH hd0
  have NEY:=zH (NEX.out.outs hO (by omega))
  have NY:=zH (NX.out.outs hO (by omega))
  have HXY:=zH (ExMP.on hO.size (fun j hj hl=>hO.block j hl (fun (e:j=p)=>by have:=hj.1;omega)) (fun _ h _=>h) _ _ HXX.out)
  have PY:=zH (PX.out.trans hO.up)
  have CD:=zH (HCC.out r.tail Y.drew (hP.below hd0))
  have hVY:V.heap.size<Y.heap.size:=NEY.out.lt
  have q:=NEY.out
  have q2:=NEY.out.on hd0
  clear hP hO hA OPC hd0
  go_upto_region 6 with fail
  refine wp_region_held_drew (S:=fun W'=>W'.cell? ⟨V.heap.size,0,none⟩=some (.int .i64 fop)∧W'.cell? ⟨V.heap.size,1,none⟩=some (.int .i64 fvk)∧W'.cell? ⟨V.heap.size,2,none⟩=some (.int .i64 fvn)∧W'.cell? ⟨V.heap.size,3,none⟩=some (.string fvs)∧W'.cell? ⟨V.heap.size,4,none⟩=some (.int .i64 frel)∧W'.cell? ⟨V.heap.size,5,none⟩=some (.int .i64 fcol)∧W'.cell? ⟨V.heap.size,6,none⟩=some (.int .i64 fn)∧W'.cell? ⟨V.heap.size,7,none⟩=some (.string fs)∧W'.cell? ⟨V.heap.size,8,none⟩=some (.slice fq flen fc)) (by kernel_rfl) ⟨q2.c 0 _ rfl,q2.c 1 _ rfl,q2.c 2 _ rfl,q2.c 3 _ rfl,q2.c 4 _ rfl,q2.c 5 _ rfl,q2.c 6 _ rfl,q2.c 7 _ rfl,q2.c 8 _ rfl⟩ (fun hS=>?_)
  refine wpAnyH_take (i:=0) (v:=.int .i64 op) rfl (by kernel_rfl) (by kernel_rfl) (by kernel_rfl) (fun _ _ _ h=>h) (Or.inl ⟨rfl,fun w hw=>?_⟩) hS ?_
  · obtain⟨a0,a1,a2,a3,a4,a5,a6,a7,a8⟩:=hw
    go_simp
  (try simp only[Act.put,List.setIfInBounds_toArray,List.set_cons_zero,List.set_cons_succ])
  refine wpAnyH_take (i:=1) (v:=(.agg #[.int .i64 fop,.int .i64 fvk,.int .i64 fvn,.string fvs,.int .i64 frel,.int .i64 fcol,.int .i64 fn,.string fs,.slice fq flen fc])) rfl (by kernel_rfl) (by kernel_rfl) (by kernel_rfl) (fun _ _ _ h=>h) (Or.inl ⟨rfl,fun w hw=>?_⟩) hS ?_
  · obtain⟨a0,a1,a2,a3,a4,a5,a6,a7,a8⟩:=hw
    go_simp
  (try simp only[Act.put,List.setIfInBounds_toArray,List.set_cons_zero,List.set_cons_succ])
  refine wpAnyH_take (i:=2) (v:=.pointer (some ⟨p,0,none⟩)) rfl (by kernel_rfl) (by kernel_rfl) (by kernel_rfl) (fun _ _ _ h=>h) (Or.inl ⟨rfl,fun w hw=>?_⟩) hS ?_
  · obtain⟨a0,a1,a2,a3,a4,a5,a6,a7,a8⟩:=hw
    go_simp
  (try simp only[Act.put,List.setIfInBounds_toArray,List.set_cons_zero,List.set_cons_succ])
  refine wpAnyH_ready (rs:=[3]) (by kernel_rfl) (by decide) (AllReadyH.cons rfl (fun K' _=>?_) AllReadyH.nil)
  refine step_call1p rfl 120 _ _ rfl (.pointer (some ⟨p,0,none⟩)) rfl (Tryz.enter_sum _ _) ?_
  refine CD.out.mono ?_
  intro e2 Z hA
  obtain⟨rfl,hE2,hO2⟩:=hA.err HH2.out
  exact⟨_,rfl,rfl,Ans.mkErr rfl hE2 (Out.down ((PY.out.trans (Out.of HD.out)).trans hO2.up))⟩
set_option maxHeartbeats 4000000 in
theorem test_ook (p z k:Nat) (sg:Rd Ex) (hC:RdC 120 p z k (bSum sg)) (l:List Tok) (w:World) (h:PSt w p z l k) (x y:Ex) (r r2:List Tok) (op:Int) (hs:bSum sg l=.ok x r) (hi:hSees kwIs r=false) (ho:opOf opsCmp r=some op) (h2:bSum sg r.tail=.ok y r2):Calls Tryz.prog 106 #[.pointer (some ⟨p,0,none⟩)] w (Ans ExV p z k (bTest z sg l) w):=by
  have lp:=h.lt
  have htk:=h.tk
  have b0:Below w.heap.size w (w.alloc (.cells zExpr.toArray 44)):=ext_alloc (ext_refl _) _
  have N0:=zH (BkA.new w zExpr 44)
  have HP0:=zH (h.below b0)
  have B0:=zH b0
  have HR:bTest z sg l=.ok (exTwo op x y) r2:=by unfold bTest;rw[hs,bind_ok,if_neg (by rw[hi];decide),ho];dsimp only;rw[h2];rfl
  rw[HR]
  have HHS:=zH hs
  have HHI:=zH hi
  have HHO:=zH ho
  have HH2:=zH h2
  have HCC:=zH hC
  have C0:=zH (hC l _ HP0.out)
  clear HR htk h b0 hC hs hi ho h2
  go_enter Tryz.func106,Tryz.ntmps106
  go_wp2_with fail
  refine C0.out.mono ?_
  intro e V hA
  obtain⟨⟨v,rfl,⟨⟨fop,⟨fvk,fvn,fvs⟩,frel,fcol,fn,fs,fq,flen,fc⟩,rfl,hx⟩⟩,hP,hO⟩:=hA.ok HHS.out
  have NV:=N0.out.outs hO (by omega)
  have PV:=(Out.of (S:=fun j=>j=p∨w.heap.size≤j) B0.out).trans hO.up
  have hwV:w.heap.size<V.heap.size:=NV.lt
  have b1:Below V.heap.size V (V.alloc (.cells #[.int .i64 fop,.int .i64 fvk,.int .i64 fvn,.string fvs,.int .i64 frel,.int .i64 fcol,.int .i64 fn,.string fs,.slice fq flen fc] 44)):=ext_alloc (ext_refl _) _
  have NE:=BkA.new V [.int .i64 fop,.int .i64 fvk,.int .i64 fvn,.string fvs,.int .i64 frel,.int .i64 fcol,.int .i64 fn,.string fs,.slice fq flen fc] 44
  have HXU:=ExMP.on (Q:=fun j=>w.heap.size<j∧j≠V.heap.size) b1.size (fun j _ hj=>b1.block j hj) (fun j hj hl=>⟨by have:(w.alloc (.cells zExpr.toArray 44)).heap.size=w.heap.size+1:=(by simp);omega,by omega⟩) _ _ hx
  have HPU:=hP.below b1
  have NVU:=NV.on b1
  obtain⟨U,hU⟩:∃ U,U=V.alloc (.cells #[.int .i64 fop,.int .i64 fvk,.int .i64 fvn,.string fvs,.int .i64 frel,.int .i64 fcol,.int .i64 fn,.string fs,.slice fq flen fc] 44):=⟨_,rfl⟩
  rw[← hU] at b1 NE HXU HPU NVU
  have HU:=zH hU
  have HPU:=zH HPU
  have NE:=zH NE
  have HXU:=zH HXU
  have NVU:=zH NVU
  have PU:=zH (PV.trans (Out.of b1))
  have hpV:p<V.heap.size:=by omega
  clear hx hP hO hA C0 hU b1 NV PV
  go_upto_region 2 with fail
  rw[← HU.out]
  clear HU
  have TK:=zH (take_no p z k r kwIs U HPU.out HHI.out)
  go_wp2_with fail
  refine TK.out.mono ?_
  rintro e X0 ⟨rfl,hb⟩
  have b2:Below X0.heap.size X0 (X0.alloc (.cells #[.string ⟨#[61]⟩,.int .i64 9,.string ⟨#[60,62]⟩,.int .i64 10,.string ⟨#[60]⟩,.int .i64 11,.string ⟨#[60,61]⟩,.int .i64 12,.string ⟨#[62]⟩,.int .i64 13,.string ⟨#[62,61]⟩,.int .i64 14] 127)):=ext_alloc (ext_refl _) _
  have hVX0:V.heap.size<X0.heap.size:=Nat.lt_of_lt_of_le NE.out.lt hb.size
  have NO:=BkA.new X0 [.string ⟨#[61]⟩,.int .i64 9,.string ⟨#[60,62]⟩,.int .i64 10,.string ⟨#[60]⟩,.int .i64 11,.string ⟨#[60,61]⟩,.int .i64 12,.string ⟨#[62]⟩,.int .i64 13,.string ⟨#[62,61]⟩,.int .i64 14] 127
  have HOP:OpsM (X0.alloc (.cells #[.string ⟨#[61]⟩,.int .i64 9,.string ⟨#[60,62]⟩,.int .i64 10,.string ⟨#[60]⟩,.int .i64 11,.string ⟨#[60,61]⟩,.int .i64 12,.string ⟨#[62]⟩,.int .i64 13,.string ⟨#[62,61]⟩,.int .i64 14] 127)) p X0.heap.size opsCmp:=by
    refine⟨NO.lt,by omega,fun j s op hj=>?_⟩
    match j,hj with
    | 0,hj=>cases hj;exact⟨NO.c 0 _ rfl,NO.c 1 _ rfl⟩
    | 1,hj=>cases hj;exact⟨NO.c 2 _ rfl,NO.c 3 _ rfl⟩
    | 2,hj=>cases hj;exact⟨NO.c 4 _ rfl,NO.c 5 _ rfl⟩
    | 3,hj=>cases hj;exact⟨NO.c 6 _ rfl,NO.c 7 _ rfl⟩
    | 4,hj=>cases hj;exact⟨NO.c 8 _ rfl,NO.c 9 _ rfl⟩
    | 5,hj=>cases hj;exact⟨NO.c 10 _ rfl,NO.c 11 _ rfl⟩
    | j+6,hj=>cases hj
  have HPX:=zH ((HPU.out.below hb).below b2)
  have NEX:=zH ((NE.out.on hb).on b2)
  have NX:=zH ((NVU.out.on hb).on b2)
  have hbb:=hb.trans (b2.mono hb.size)
  have HXX:=zH (ExMP.below hbb HXU.out)
  have PX:=zH (PU.out.trans (Out.of hbb))
  have OPC:=zH (operation_any p z k X0.heap.size 6 r opsCmp _ HPX.out HOP (by decide))
  clear hb b2 NO HOP hbb TK
  go_wp2_with fail
  refine OPC.out.mono ?_
  intro e1 Y hA
  obtain⟨rfl,hP,hO⟩:=hA.some HHO.out
  have hd0:Below Y.heap.size Y Y.drew:=(Below.refl _ _).drew
  have HD:=zH hd0
  have NEY:=zH (NEX.out.outs hO (by omega))
  have NY:=zH (NX.out.outs hO (by omega))
  have HXY:=zH (ExMP.on hO.size (fun j hj hl=>hO.block j hl (fun (e:j=p)=>by have:=hj.1;omega)) (fun _ h _=>h) _ _ HXX.out)
  have PY:=zH (PX.out.trans hO.up)
  have CD:=zH (HCC.out r.tail Y.drew (hP.below hd0))
  have hVY:V.heap.size<Y.heap.size:=NEY.out.lt
  have q:=NEY.out
  have q2:=NEY.out.on hd0
  clear hP hO hA OPC hd0
  go_upto_region 6 with fail
  obtain⟨c0,c1,c2,c3,c4,c5,c6,c7,c8⟩:=q.c9_ rfl
  obtain⟨d0,d1,d2,d3,d4,d5,d6,d7,d8⟩:=q2.c9_ rfl
  have fzX:=q.fz
  have fzD:=q2.fz
  have HAP:=Tryz.enterApply
  clear q q2
  go_region_law (first
    |(refine step_call1 rfl 120 _ _ rfl (.pointer (some ⟨p,0,none⟩)) rfl (Tryz.enter_sum _ _) ?_;refine CD.out.mono ?_;intro e2 Z hA2;obtain⟨⟨v2,rfl,⟨⟨gop,⟨gvk,gvn,gvs⟩,grel,gcol,gn,gs,gq,glen,gc⟩,rfl,hy⟩⟩,hP2,hO2⟩:=hA2.ok HH2.out;refine⟨_,rfl,?_⟩;have HYY:=zH hy;have HPZ:=zH hP2;have HOZ:=zH (show Out (fun j=>j=p) Y Z from (Out.of HD.out).trans hO2);have qz:=NEY.out.outs HOZ.out (fun (e:V.heap.size=p)=>by omega);have y0:=qz.c 0 _ rfl;have y1:=qz.c 1 _ rfl;have y2:=qz.c 2 _ rfl;have y3:=qz.c 3 _ rfl;have y4:=qz.c 4 _ rfl;have y5:=qz.c 5 _ rfl;have y6:=qz.c 6 _ rfl;have y7:=qz.c 7 _ rfl;have y8:=qz.c 8 _ rfl;have fzZ:=qz.fz;have hgZ:=qz.lt;have HRZ:=zH qz;have NZ:=zH (NY.out.outs HOZ.out (fun (e:w.heap.size=p)=>by omega));clear hy hP2 hO2 hA2 qz)
    |(refine step_call2 rfl 89 _ _ _ rfl (.int .i64 op) (.slice (some ⟨Z.heap.size,0,none⟩) 2 2) rfl rfl (HAP _ _) ?_;refine (apply_any op _ 2 2 _).mono ?_;rintro e3 M ⟨rfl,hb3⟩;refine⟨_,rfl,?_⟩;have NN:=zH ((BkA.new Z [.int .i64 fop,.int .i64 fvk,.int .i64 fvn,.string fvs,.int .i64 frel,.int .i64 fcol,.int .i64 fn,.string fs,.slice fq flen fc,.int .i64 gop,.int .i64 gvk,.int .i64 gvn,.string gvs,.int .i64 grel,.int .i64 gcol,.int .i64 gn,.string gs,.slice gq glen gc] 44).on hb3);have b1:Below Z.heap.size Z (Z.alloc (.cells #[.int .i64 fop,.int .i64 fvk,.int .i64 fvn,.string fvs,.int .i64 frel,.int .i64 fcol,.int .i64 fn,.string fs,.slice fq flen fc,.int .i64 gop,.int .i64 gvk,.int .i64 gvn,.string gvs,.int .i64 grel,.int .i64 gcol,.int .i64 gn,.string gs,.slice gq glen gc] 44)):=(ext_alloc (ext_refl _) _);have HBM:=zH (b1.trans (hb3.mono b1.size));have NM:=zH (NZ.out.on HBM.out);have z0:=NM.out.c 0 _ rfl;have z1:=NM.out.c 1 _ rfl;have z2:=NM.out.c 2 _ rfl;have z3:=NM.out.c 3 _ rfl;have z4:=NM.out.c 4 _ rfl;have z5:=NM.out.c 5 _ rfl;have z6:=NM.out.c 6 _ rfl;have z7:=NM.out.c 7 _ rfl;have z8:=NM.out.c 8 _ rfl;have fzM:=NM.out.fz;have hgM:=NM.out.lt;clear hb3 b1))
  all_goals
   have hYZ:=HOZ.out.size
   have hYD:Y.drew.heap.size=Y.heap.size:=rfl
   have HX2:=zH (ExMP.on (Q:=fun j=>w.heap.size<j) HOZ.out.size (fun j hj hl=>HOZ.out.block j hl (fun (e:j=p)=>by have:=hj.1;omega)) (fun _ h _=>h.1) _ _ HXY.out)
   have HY2:=zH (ExMP.on (Q:=fun j=>w.heap.size<j) (Nat.le_refl _) (fun _ _ _=>rfl) (fun j hj _=>by omega) _ _ HYY.out)
   have HXM:=zH (two_ex (P:=fun j=>w.heap.size<j) (op:=op) (nb:=Z.heap.size) (g:=w.heap.size) (re:=⟨fop,⟨fvk,fvn,fvs⟩,frel,fcol,fn,fs,fq,flen,fc⟩) (ry:=⟨gop,⟨gvk,gvn,gvs⟩,grel,gcol,gn,gs,gq,glen,gc⟩) HX2.out HY2.out (by omega) (fun j hj=>by omega) HBM.out NN.out.lt NN.out.c (Out.refl _ _))
   have HF:=zH (fin9g (w:=w) (V:=M) (P:=fun j=>w.heap.size<j) (b:=w.heap.size) (gr:=w.heap.size) (re:=⟨op,zeroVal,0,0,0,⟨#[]⟩,some ⟨Z.heap.size,0,none⟩,2,2⟩) (Nat.le_refl _) lp HXM.out (fun j hj=>⟨by omega,by omega⟩) (HPZ.out.below HBM.out) ((PY.out.trans HOZ.out.up).trans (Out.of HBM.out)))
   go_wp2_with fail
   exact bodyPost_ret (v:=.agg (exCells op zeroVal 0 0 0 ⟨#[]⟩ (some ⟨Z.heap.size,0,none⟩) 2 2).toArray) (by simp[results,Tryz.results106,go_sem,z0,z1,z2,z3,z4,z5,z6,z7,z8,zeroVal]) rfl (Ans.mkOk rfl HF.out.1 HF.out.2.1 HF.out.2.2)
theorem test_any (p z k:Nat) (sg:Rd Ex) (hC:RdC 120 p z k (bSum sg)):RdC 106 p z k (bTest z sg):=by
  intro l w h
  cases hs:bSum sg l with
  | err er a0=>exact test_serr p z k sg hC l w h er a0 hs
  | ok x r =>
    cases hi:hSees kwIs r with
    | true =>
      obtain⟨t,r1,rfl,-,-⟩:=sees_cons hi
      cases hn:bNull z x r1 with
      | err er a0=>exact test_nerr p z k sg hC l w h x t r1 hs hi er a0 hn
      | ok y r2=>exact test_nok p z k sg hC l w h x y t r1 r2 hs hi hn
    | false =>
      cases ho:opOf opsCmp r with
      | none=>exact test_none p z k sg hC l w h x r hs hi ho
      | some op =>
        cases h2:bSum sg r.tail with
        | err er a0=>exact test_oerr p z k sg hC l w h x r op hs hi ho er a0 h2
        | ok y r2=>exact test_ook p z k sg hC l w h x y r r2 op hs hi ho h2
end Go.Proofs.YtapbglhjamddbaaGreatDoor
