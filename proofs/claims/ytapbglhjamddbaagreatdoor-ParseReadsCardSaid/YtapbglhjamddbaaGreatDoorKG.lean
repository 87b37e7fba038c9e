/- A part of the proof. -/
import Derived.Test.YtapbglhjamddbaaGreatDoorRpR
import Derived.Test.YtapbglhjamddbaaGreatDoorKb
import Derived.Laws.StructEq
import Derived.BigQuiet
import Derived.Test.YtapbglhjamddbaaGreatDoorKv
import Derived.Test.YtapbglhjamddbaaGreatDoorKt
import Derived.Test.YtapbglhjamddbaaGreatDoorCards
import Derived.Test.YtapbglhjamddbaaGreatDoorTie
import Derived.Lay
import Derived.LaidMore
import Derived.OpenShut
import Derived.SevenTiedAt
import Derived.Stop.Joined
import Derived.SizedLaws
import Derived.Lib.ConvBytes
import Derived.Lib.AtoiErrMem
import Derived.Laws.IdiomStrings
import Derived.Test.YtapbglhjamddbaaGreatDoorHd
set_option linter.unusedSimpArgs false
set_option linter.unusedVariables false
namespace Go.Proofs.YtapbglhjamddbaaGreatDoor
open Go.RowKit Go.Deep
set_option maxRecDepth 100000
theorem selsW_step {z:Nat} {orr:Rd Ex} (hK:Shr orr) {acc:List Sel} {l:List Tok} (h:hSees kwUnion l=true):selsW z orr acc l=need z kwAll l.tail fun r=>(bSel z orr acc.length r).bind fun x r2=>selsW z orr (acc++[x]) r2:=by
 unfold need
 cases h2:hSees kwAll l.tail with
 | false=>rw[selsW_all h h2];rfl
 | true =>
  rw[if_pos rfl]
  cases h3:bSel z orr acc.length l.tail.tail with
  | err er a=>rw[selsW_err h h2 h3];dsimp only;rw[h3];rfl
  | ok x r=>rw[selsW_some hK h h2 h3];dsimp only;rw[h3];rfl
def hdQ (z:Nat) (orr:Rd Ex) (acc:List Sel):Rd Qu:=fun l=>(bSel z orr acc.length l).bind fun x r=>(selsW z orr (acc++[x]) r).bind fun ss r2=>(bOrder z r2).bind fun o r3=>bEnd ⟨ss,o⟩ r3
def tlQ (z:Nat) (orr:Rd Ex) (acc:List Sel):Rd Qu:=fun r=>(selsW z orr acc r).bind fun ss r2=>(bOrder z r2).bind fun o r3=>bEnd ⟨ss,o⟩ r3
def orQ (z:Nat) (acc:List Sel):Rd Qu:=fun r2=>(bOrder z r2).bind fun o r3=>bEnd ⟨acc,o⟩ r3
theorem tlQ_eq {z:Nat} {orr:Rd Ex} (hK:Shr orr) (acc:List Sel):tlQ z orr acc=fun l=>if hSees kwUnion l=true then (fun l=>need z kwAll l (hdQ z orr acc)) l.tail else orQ z acc l:=by
 funext l
 unfold tlQ
 cases h:hSees kwUnion l with
 | false=>rw[selsW_none h];rfl
 | true =>
  rw[selsW_step hK h,need_bind]
  show need z kwAll l.tail _=need z kwAll l.tail _
  congr 1
  funext r
  rw[bind_bind]
  rfl
theorem bSel_room {z:Nat} {orr:Rd Ex} {n:Nat} {l:List Tok} (h:n≠4∨hSees kwSelect l=false):bSel z orr n l=need z kwSelect l (bSel2 z orr):=by
 unfold bSel need
 split
 ·rename_i hs
  rcases h with h | h
  ·dsimp only
   rw[if_neg h]
  ·rw[h] at hs;cases hs
 ·rfl
theorem bSel_full {z:Nat} {orr:Rd Ex} {l:List Tok} (h:hSees kwSelect l=true):bSel z orr 4 l=.err 5 (hAt z l):=by
 unfold bSel need
 rw[if_pos h]
 dsimp only
 rw[if_pos rfl]
theorem orQ_eq (z:Nat) (acc:List Sel):orQ z acc=fun l=>if hSees kwOrder l=true then (fun l=>need z kwBy l fun l=>(listP z (bKey z) l).bind fun o=>bEnd ⟨acc,o⟩) l.tail else bEnd ⟨acc,[]⟩ l:=by
 funext l
 unfold orQ bOrder
 split
 ·rw[need_bind]
 ·rfl
open Go.RowKit
set_option maxRecDepth 100000
theorem Tryz.neqVal5 (a b:Val) (w:World):(binOp .neq 42 (.agg #[.int .i64 a.k,.int .i64 a.n,.string a.s]) (.agg #[.int .i64 b.k,.int .i64 b.n,.string b.s])).run Tryz.prog w=.ok (.bool (!(a.k == b.k && a.n == b.n && a.s.toList == b.s.toList))) w:=by
 have hS:Tryz.prog.underlying 42=some (.struct (Tryz.prog.fieldsOf 42)):=by kernel_rfl
 have hp:Tryz.prog.stoodInHeld 42=false:=by kernel_rfl
 rw[run_neq_struct,show (10000:Nat)=9999+1 from rfl,run_equalIn_agg w 9999 42 _ _ hS hp]
 simp only[Program.fieldsOf,Tryz.underlying42]
 go_simp
 by_cases h1:a.k=b.k <;> by_cases h2:a.n=b.n <;> by_cases h3:a.s.toList=b.s.toList <;> simp[h1,h2,h3]
open Go.RowKit
set_option maxRecDepth 100000
def Res.list:Res→List Tok
 | .ok L=>L
 | .err _ _=>[]
def Res.er:Res→Nat
 | .ok _=>0
 | .err e _=>e
def Res.pl:Res→Nat
 | .ok _=>0
 | .err _ a=>a
open Go.ChangeShapes Go.WideShapes Go.ChangeAt Go.RowKit Go.Joins
set_option maxRecDepth 100000
noncomputable abbrev laidVars:List (String × DataW Unit):=Rows.parseReadsRow.laid
theorem wit_shaped (os:Os) (args:Array Value):((World.laidAll Tryz.prog os laidVars).forCall (fun _ _=>0) ⟨#[],args,[]⟩).Shaped Tryz.prog:=World.shaped_of_ZipB (by kernel_rfl) (by kernel_rfl)
theorem wit_met (os:Os) (args:Array Value):laidMetH Tryz.prog laidVars ((World.laidAll Tryz.prog os laidVars).forCall (fun _ _=>0) ⟨#[],args,[]⟩).memory:=by
 rw[MakeChecks.laidMetH_plain _ _ _ (by kernel_rfl)]
 exact laidMet_laidAll _ (by kernel_rfl) (by kernel_rfl)
theorem var_lt {W:World} {n:String} {d:DataW Unit} {g:Nat} (h:Lib.VarReads Tryz.prog W n d) (hg:Tryz.prog.globalNamed n=some g):g<W.heap.size:=by
 obtain⟨g',t,cs,fuel,p,hg',ht,hv,hd⟩:=h
 obtain rfl:=Option.some.inj (hg.symm.trans hg')
 unfold World.var? at hv
 simp only[hg,Option.bind_some] at hv
 rcases Nat.lt_or_ge g W.heap.size with h | h
 ·exact h
 ·simp[Array.getElem?_eq_none h] at hv
theorem GV.of_laid {W:World} (hL:laidMetH Tryz.prog laidVars W):GV W:=by
 rw[MakeChecks.laidMetH_plain _ _ _ (by kernel_rfl)] at hL
 have h1:Lib.VarReads Tryz.prog W "math/bits.deBruijn64tab" Rows.laid_math_bits_deBruijn64tab:=Lib.laidMet.reads hL (List.mem_of_getElem? (i:=1) rfl)
 have hlt:=var_lt h1 (g:=11) (by kernel_rfl)
 exact GV.of_reads (by omega) (Lib.laidMet.reads hL (List.mem_of_getElem? (i:=8) rfl)) (Lib.laidMet.reads hL (List.mem_of_getElem? (i:=7) rfl)) (Lib.laidMet.reads hL (List.mem_of_getElem? (i:=4) rfl))
open Go.ChangeShapes Go.WideShapes Go.ChangeAt Go.RowKit Go.Joins
set_option maxRecDepth 100000
def ByteC (w:World) (g:Nat) (l:Bs):Prop:=∀ j b,l[j]?=some b→w.cell? ⟨g,j,none⟩=some (.int .u8 (b.toNat:Int))∧w.frozen? ⟨g,j,none⟩=false
theorem byteC_new (w:World) (e:TypeId) (s:ByteArray):ByteC (Lib.bytesWorld w e s) w.heap.size s.data.toList:=fun j b hb=>by
 have hj:=(List.getElem?_eq_some_iff.1 hb).1
 rw[Array.length_toList] at hj
 refine⟨?_,?_⟩
 ·have h:=Lib.bytesWorld_cell w e s j hj
  rw[h,List.getD,hb]
  rfl
 ·unfold World.frozen?
  rw[Lib.bytesWorld_at_new]
  have:j<(Lib.bytesCells w e s).size:=by
   unfold Lib.bytesCells
   rw[Array.size_append,Array.size_map]
   exact Nat.lt_of_lt_of_le hj (Nat.le_add_right _ _)
  simp
  omega
theorem ByteC.set {w:World} {g:Nat} {l:Bs} (h:ByteC w g l) (i:Nat) (c:UInt8):ByteC (w.setCell ⟨g,i,none⟩ (.int .u8 (c.toNat:Int))) g (l.set i c):=fun j b hb=>by
 rw[World.frozen?_setCell]
 rw[List.getElem?_set] at hb
 split at hb
 ·rename_i hij
  subst hij
  split at hb
  ·rename_i hl
   cases hb
   obtain⟨h1,h2⟩:=h i _ (List.getElem?_eq_getElem hl)
   exact⟨World.cell?_setCell_same _ _ _ h1,h2⟩
  ·cases hb
 ·rename_i hij
  obtain⟨h1,h2⟩:=h j b hb
  exact⟨(World.cell?_setCell_other _ _ _ _ (fun e=>hij (by cases e;rfl))).trans h1,h2⟩
open Go.RowKit
set_option maxRecDepth 100000
theorem rletter_any (b:UInt8) (x:Int) (hx:x=(b.toNat:Int)) (w:World):Calls Tryz.prog 56 #[.int .u8 x] w fun e w'=>e=.returned (.bool (isLetter b))∧w'=w:=by
 have hb:=letter_num b
 have h256:=b.toNat_lt
 obtain⟨t,ht⟩:∃ t,t=isLetter b:=⟨_,rfl⟩
 rw[← ht] at hb ⊢
 clear ht
 by_cases h1:x ≥ 97
 ·by_cases h2:x≤122
  ·obtain rfl:t=true:=by rw[hb];simp;omega
   clear hb hx
   go_enter Tryz.func56,Tryz.ntmps56
   go_wp2
   go_ret
   exact⟨rfl,rfl⟩
  ·obtain rfl:t=false:=by rw[hb];simp;omega
   have h3:x ≥ 65:=by omega
   have h4:¬ x≤90:=by omega
   clear hb hx
   go_enter Tryz.func56,Tryz.ntmps56
   go_wp2
   go_ret
   exact⟨rfl,rfl⟩
 ·by_cases h3:x ≥ 65
  ·by_cases h4:x≤90
   ·obtain rfl:t=true:=by rw[hb];simp;omega
    clear hb hx
    go_enter Tryz.func56,Tryz.ntmps56
    go_wp2
    go_ret
    exact⟨rfl,rfl⟩
   ·obtain rfl:t=false:=by rw[hb];simp;omega
    clear hb hx
    go_enter Tryz.func56,Tryz.ntmps56
    go_wp2
    go_ret
    exact⟨rfl,rfl⟩
  ·obtain rfl:t=false:=by rw[hb];simp;omega
   clear hb hx
   go_enter Tryz.func56,Tryz.ntmps56
   go_wp2
   go_ret
   exact⟨rfl,rfl⟩
theorem rdigit_any (b:UInt8) (x:Int) (hx:x=(b.toNat:Int)) (w:World):Calls Tryz.prog 57 #[.int .u8 x] w fun e w'=>e=.returned (.bool (isDigit b))∧w'=w:=by
 have hb:=digit_num b
 obtain⟨t,ht⟩:∃ t,t=isDigit b:=⟨_,rfl⟩
 rw[← ht] at hb ⊢
 clear ht
 by_cases h1:x ≥ 48
 ·by_cases h2:x≤57
  ·obtain rfl:t=true:=by rw[hb];simp;omega
   clear hb hx
   go_enter Tryz.func57,Tryz.ntmps57
   go_wp2
   go_ret
   exact⟨rfl,rfl⟩
  ·obtain rfl:t=false:=by rw[hb];simp;omega
   clear hb hx
   go_enter Tryz.func57,Tryz.ntmps57
   go_wp2
   go_ret
   exact⟨rfl,rfl⟩
 ·obtain rfl:t=false:=by rw[hb];simp;omega
  clear hb hx
  go_enter Tryz.func57,Tryz.ntmps57
  go_wp2
  go_ret
  exact⟨rfl,rfl⟩
set_option maxHeartbeats 2000000 in
theorem rdigits_any (s:ByteArray) (k:Nat) (w:World) (hk:k≤s.size) (hs:s.size≤2000) (d:Bs) (hd:d=(s.data.toList.drop k).takeWhile isDigit) :
  Calls Tryz.prog 60 #[.string s,.int .i64 (k:Int)] w fun e w'=>(∃ n:Int,0≤n∧n≤9223372036854775807∧(numOf d≤9223372036854775807→n=(numOf d:Int))∧e=.returned (.tuple #[.int .i64 n,.int .i64 ((k+d.length:Nat):Int),.bool (decide (9223372036854775807<numOf d))]))∧w'=w:=by
 have hsl:s.data.toList.length=s.size:=Array.length_toList
 have hdl:k+d.length≤s.size:=by
  have:=takeWhile_le isDigit (s.data.toList.drop k)
  rw[← hd,List.length_drop,hsl] at this
  omega
 go_enter Tryz.func60,Tryz.ntmps60
 go_wp2_with fail
 go_loopw [1,7,8] (fun va vn vo wr=>∃ (j:Nat) (n:Int) (o:Bool),va=.int .i64 j∧vn=.int .i64 n∧vo=.bool o∧k≤j∧j≤k+d.length∧0≤n∧n≤9223372036854775807∧Hid (o=decide (9223372036854775807<numOf (d.take (j - k)))∧(numOf (d.take (j - k))≤9223372036854775807→n=(numOf (d.take (j - k)):Int)))∧wr=w) (fun va _ _ _=>s.size - (intOf va).toNat)
 case atStart=>exact⟨k,0,false,rfl,rfl,rfl,Nat.le_refl _,Nat.le_add_right _ _,by omega,by omega,by rw[Nat.sub_self];exact⟨rfl,fun _=>rfl⟩,rfl⟩
 case round =>
  obtain⟨j,n,o,rfl,rfl,rfl,hj1,hj2,hn1,hn2,HH,rfl⟩:=hrel
  by_cases hlt:j<s.size
  ·obtain⟨b,hb⟩:∃ b,s.data.toList[j]?=some b:=⟨_,List.getElem?_eq_getElem (by rw[hsl];exact hlt)⟩
   obtain⟨p4,p5⟩:=byt_data hb
   have eb:=(byt_at s j p4).trans p5
   have hb2:(s.data.toList.drop k)[j - k]?=some b:=by rw[List.getElem?_drop,show k+(j - k)=j by omega,hb]
   have hiff:=takeWhile_at (p:=isDigit) (i:=j - k) (by rw[← hd];omega) hb2
   rw[← hd] at hiff
   go_wp2_with fail
   refine (rdigit_any b _ rfl _).mono ?_
   rintro e w2 ⟨rfl,rfl⟩
   cases hdg:isDigit b with
   | true =>
    have hin:=hiff.2 hdg
    have hget:d[j - k]?=some b:=by rw[hd];rw[hd] at hin;exact takeWhile_get hin hb2
    have hsn:numOf (d.take (j+1 - k))=10*numOf (d.take (j - k))+(b.toNat - 48):=by rw[show j+1 - k=j - k+1 by omega,List.take_add_one,hget];exact numOf_snoc _ _
    have hnum:=digit_num b
    rw[hdg] at hnum
    have hnum2:=of_decide_eq_true hnum.symm
    obtain⟨x,hx⟩:∃ x,x=(b.toNat:Int):=⟨_,rfl⟩
    rw[← hx] at eb
    have hx1:48≤x:=by omega
    have hx2:x≤57:=by omega
    obtain⟨ho,hno⟩:=HH.out
    have hjd:j+1≤k+d.length:=by omega
    by_cases hbig:n > (9223372036854775807 - (x - 48)) / 10
    ·have hnew:9223372036854775807<numOf (d.take (j+1 - k)):=by
      by_cases h:numOf (d.take (j - k))≤9223372036854775807
      ·have:=hno h
       omega
      ·omega
     have HN:=zH (And.intro hnew hjd)
     clear hnew hno ho hsn hnum hnum2 hx hget hin hb2 hiff hb p5 hsl hdl hd HH hjd
     go_wp2_with fail
     go_roundw
     case rel=>exact⟨j+1,x - 48,true,by go_num,rfl,rfl,by omega,HN.out.2,by omega,by omega,⟨(decide_eq_true HN.out.1).symm,fun h=>absurd HN.out.1 (by omega)⟩,trivial⟩
     case measure=>simp[intOf] <;> omega
    ·have hnew:(o=decide (9223372036854775807<numOf (d.take (j+1 - k))))∧(numOf (d.take (j+1 - k))≤9223372036854775807→10*n+(x - 48)=(numOf (d.take (j+1 - k)):Int)):=by
      by_cases h:numOf (d.take (j - k))≤9223372036854775807
      ·have h2:=hno h
       refine⟨?_,fun _=>by omega⟩
       rw[ho]
       simp only[decide_eq_decide]
       omega
      ·refine⟨?_,fun h3=>by omega⟩
       rw[ho]
       simp only[decide_eq_decide]
       omega
     have HN:=zH (And.intro hnew hjd)
     clear hnew hno ho hsn hnum hnum2 hx hget hin hb2 hiff hb p5 hsl hdl hd HH hjd
     go_wp2_with fail
     go_roundw
     case rel=>exact⟨j+1,10*n+(x - 48),o,by go_num,by go_num,rfl,by omega,HN.out.2,by omega,by omega,HN.out.1,trivial⟩
     case measure=>simp[intOf] <;> omega
   | false =>
    have hjk:j=k+d.length:=by
     have h:¬ j - k<d.length:=fun h=>by
      have:=hiff.1 h
      rw[hdg] at this
      cases this
     omega
    obtain⟨ho,hno⟩:=HH.out
    rw[hjk,Nat.add_sub_cancel_left,List.take_length] at ho hno
    have HN:=zH (And.intro ho (And.intro hno hjk))
    clear ho hno hjk hiff hb2 hb p5 eb hsl hdl hd HH
    go_wp2_with fail
    refine bodyPost_ret (v:=.tuple #[.int .i64 n,.int .i64 (j:Int),.bool o]) (by simp[results,Tryz.results60,go_sem]) rfl ?_
    exact⟨⟨n,hn1,hn2,HN.out.2.1,by rw[← HN.out.1,← HN.out.2.2]⟩,rfl⟩
  ·have hjk:j=k+d.length:=by omega
   obtain⟨ho,hno⟩:=HH.out
   rw[hjk,Nat.add_sub_cancel_left,List.take_length] at ho hno
   have HN:=zH (And.intro ho (And.intro hno hjk))
   clear ho hno hjk hsl hdl hd HH
   go_wp2_with fail
   refine bodyPost_ret (v:=.tuple #[.int .i64 n,.int .i64 (j:Int),.bool o]) (by simp[results,Tryz.results60,go_sem]) rfl ?_
   exact⟨⟨n,hn1,hn2,HN.out.2.1,by rw[← HN.out.1,← HN.out.2.2]⟩,rfl⟩
def mixedL (l:Bs) (i:Nat):Bs:=(l.take i).map lower++l.drop i
theorem mixedL_all (l:Bs):mixedL l l.length=l.map lower:=by unfold mixedL;rw[List.take_length,List.drop_length,List.append_nil]
theorem mixedL_at {l:Bs} {i:Nat} {b:UInt8} (h:l[i]?=some b):(mixedL l i)[i]?=some b:=by
 have hl:=(List.getElem?_eq_some_iff.1 h).1
 unfold mixedL
 rw[List.getElem?_append_right (by rw[List.length_map,List.length_take];omega),List.length_map,List.length_take,List.getElem?_drop,show i+(i - min i l.length)=i by omega,h]
theorem mixedL_step {l:Bs} {i:Nat} {b:UInt8} (h:l[i]?=some b):mixedL l (i+1)=(mixedL l i).set i (lower b):=by
 obtain⟨hl,hb⟩:=List.getElem?_eq_some_iff.1 h
 unfold mixedL
 rw[List.take_add_one,h,List.set_append_right _ _ (by rw[List.length_map,List.length_take];omega),List.length_map,List.length_take,show i - min i l.length=0 by omega,List.drop_eq_getElem_cons hl,List.set_cons_zero]
 simp
theorem mixedL_same {l:Bs} {i:Nat} {b:UInt8} (h:l[i]?=some b) (hb:lower b=b):mixedL l (i+1)=mixedL l i:=by
 rw[mixedL_step h,hb]
 exact List.ext_getElem? fun j=>by
  rw[List.getElem?_set]
  split
  ·rename_i e
   subst e
   have:=mixedL_at h
   rw[this]
   split
   ·rfl
   ·rename_i hh
    rw[(List.getElem?_eq_none (by omega))] at this
    cases this
  ·rfl
theorem addr_zero (g j:Nat):(Addr.mk g 0 none).add j=⟨g,j,none⟩:=by
 unfold Addr.add
 split
 ·rename_i h0;rw[h0]
 ·simp
theorem conv_back (w:World) (g cap:Nat) (l:Bs) (n:Nat) (hn:l.length=n) (h:ByteC w g l):(convert 108 9 (.slice (some ⟨g,0,none⟩) n cap)).run Tryz.prog w=.ok (.string (bsB l)) w:=by
 subst hn
 refine run_convert_bytes_back w 108 9 5 ⟨g,0,none⟩ cap l Tryz.underlying108 Tryz.underlying5 Tryz.underlying9 (fun j hj=>?_)
 rw[addr_zero]
 exact (h j _ (List.getElem?_eq_getElem hj)).1
set_option maxHeartbeats 2000000 in
theorem rsmall_any (s:ByteArray) (w:World) (hs:s.size≤2000):Calls Tryz.prog 58 #[.string s] w fun e w'=>e=.returned (.string (bsB (s.data.toList.map lower)))∧Below w.heap.size w w':=by
 have hsl:s.data.toList.length=s.size:=Array.length_toList
 have kc:=fun (w:World)=>Lib.run_convert_string_bytes (P:=Tryz.prog) w 9 108 5 s Tryz.underlying9 Tryz.underlying108 Tryz.underlying5
 go_enter Tryz.func58,Tryz.ntmps58
 go_wp2_with fail
 have hsz:=Lib.bytesWorld_size w 5 s
 have hbc:=byteC_new w 5 s
 have hbb:=Lib.bytesWorld_below w 5 s
 obtain⟨cap,hcap⟩:∃ cap,cap=grownCap w s.size 0 5:=⟨_,rfl⟩
 obtain⟨V,hV⟩:∃ V,V=Lib.bytesWorld w 5 s:=⟨_,rfl⟩
 rw[← hV] at hsz hbc hbb
 rw[← hV,← hcap]
 have HBC:=zH hbc
 have HBB:=zH hbb
 clear hV hcap kc hbc hbb
 obtain⟨g,hg⟩:∃ g,g=w.heap.size:=⟨_,rfl⟩
 have HG:=zH hg
 rw[← hg] at hsz HBC HBB
 rw[← hg]
 clear hg
 go_loopw [4] (fun vi wr=>∃ i:Nat,vi=.int .i64 i∧i≤s.size∧Hid (ByteC wr g (mixedL s.data.toList i)∧Below g w wr∧g<wr.heap.size)) (fun vi _=>s.size - (intOf vi).toNat)
 case atStart=>exact⟨0,rfl,Nat.zero_le _,HBC.out,HBB.out,by omega⟩
 case round =>
  obtain⟨i,rfl,hi,HH⟩:=hrel
  obtain⟨W,hW⟩:∃ W,W=wr:=⟨_,rfl⟩
  subst hW
  by_cases hlt:i<s.size
  ·obtain⟨b,hb⟩:∃ b,s.data.toList[i]?=some b:=⟨_,List.getElem?_eq_getElem (by rw[hsl];exact hlt)⟩
   obtain⟨c0,f0⟩:=HH.out.1 i b (mixedL_at hb)
   have hb256:=b.toNat_lt
   by_cases hbig:65≤b.toNat∧b.toNat≤90
   ·obtain⟨k1,k2⟩:=hbig
    have k3:(b.toNat:Int) ≥ 65:=by omega
    have k4:(b.toNat:Int)≤90:=by omega
    have hu:=(lower_num b).1 ⟨k1,k2⟩
    have hset:=HH.out.1.set i (lower b)
    rw[← mixedL_step hb,hu,show ((b.toNat+32:Nat):Int)=(b.toNat:Int)+32 by omega] at hset
    have HS:=zH hset
    clear hset hu hb HBC HBB
    go_wp2_with fail
    go_roundw
    case rel=>exact⟨i+1,by go_num,hlt,HS.out,HH.out.2.1.setCell (Nat.le_refl _) _,by rw[World.size_setCell];exact HH.out.2.2⟩
    case measure=>simp[intOf] <;> omega
   ·have hsame:=(lower_num b).2 hbig
    have hm:=mixedL_same hb hsame
    by_cases k1:65≤b.toNat
    ·have k3:(b.toNat:Int) ≥ 65:=by omega
     have k4:¬ (b.toNat:Int)≤90:=by omega
     have HM:=zH hm
     clear hm hb HBC HBB hsame hbig
     go_wp2_with fail
     go_roundw
     case rel=>exact⟨i+1,by go_num,hlt,by rw[HM.out];exact HH.out.1,HH.out.2⟩
     case measure=>simp[intOf] <;> omega
    ·have k3:¬ (b.toNat:Int) ≥ 65:=by omega
     have HM:=zH hm
     clear hm hb HBC HBB hsame hbig
     go_wp2_with fail
     go_roundw
     case rel=>exact⟨i+1,by go_num,hlt,by rw[HM.out];exact HH.out.1,HH.out.2⟩
     case measure=>simp[intOf] <;> omega
  ·obtain rfl:i=s.size:=by omega
   obtain⟨hbc,hbl,hgl⟩:=HH.out
   rw[← hsl,mixedL_all] at hbc
   obtain⟨S,hS⟩:∃ S,S=bsB (s.data.toList.map lower):=⟨_,rfl⟩
   have kb:=conv_back W g cap (s.data.toList.map lower) s.size (by rw[List.length_map,hsl]) hbc
   rw[← hS] at kb
   have BE:=zH (HG.out ▸ hbl)
   clear HH HBC HBB hbc hbl
   have HS:=zH hS
   clear hS
   go_wp2_with fail
   go_ret
   exact⟨by rw[← HS.out];rfl,BE.out⟩
open Go.RowKit
set_option maxRecDepth 100000
def OneOut:One→Nat→Ending→Prop
 | .tok kd n st used,k,e=>e=.returned (.tuple #[.agg #[.int .i64 (kd:Int),.int .i64 (n:Int),.int .i64 (k:Int),.string (bsB st)],.int .i64 ((k+used:Nat):Int),.int .i64 0,.int .i64 0])
 | .err er rel,k,e=>∃ (a b c:Int) (d:ByteArray),e=.returned (.tuple #[.agg #[.int .i64 a,.int .i64 b,.int .i64 c,.string d],.int .i64 0,.int .i64 (er:Int),.int .i64 ((k+rel:Nat):Int)])
set_option maxHeartbeats 4000000 in
theorem rone_num (s:ByteArray) (k:Nat) (w:World) (hk:k<s.size) (hs:s.size≤2000) (b:UInt8) (hb:s.data.toList[k]?=some b) (hl:isLetter b=false) (hd:isDigit b=true) :
  Calls Tryz.prog 27 #[.string s,.int .i64 (k:Int)] w fun e w'=>OneOut (oneNum (s.data.toList.drop k)) k e∧Below w.heap.size w w':=by
 obtain⟨p4,p5⟩:=byt_data hb
 have eb:=(byt_at s k p4).trans p5
 clear p5 hb
 go_enter Tryz.func27,Tryz.ntmps27
 go_wp2_with fail
 refine (rletter_any b _ rfl _).mono ?_
 rintro e w1 ⟨rfl,rfl⟩
 rw[hl]
 go_wp2_with fail
 refine (rdigit_any b _ rfl _).mono ?_
 rintro e w1 ⟨rfl,rfl⟩
 rw[hd]
 go_wp2_with fail
 refine (rdigits_any s k _ (by omega) hs _ rfl).mono ?_
 rintro e w2 ⟨⟨n,hn0,hn1,hn2,rfl⟩,rfl⟩
 obtain⟨D,hD⟩:∃ D,D=(s.data.toList.drop k).takeWhile isDigit:=⟨_,rfl⟩
 rw[← hD] at hn2 ⊢
 have HD:=zH hD
 clear hD
 by_cases hover:9223372036854775807<numOf D
 ·have HV:=zH hover
  rw[decide_eq_true hover]
  clear hover hn2
  go_wp2_with fail
  refine bodyPost_ret (v:=.tuple #[.agg #[.int .i64 0,.int .i64 0,.int .i64 (k:Int),.string ⟨#[]⟩],.int .i64 0,.int .i64 5,.int .i64 (k:Int)]) (by simp[results,Tryz.results27,go_sem]) rfl ⟨?_,ext_alloc (ext_alloc (ext_refl _) _) _⟩
  have e:oneNum (s.data.toList.drop k)=.err 5 0:=by unfold oneNum;rw[← HD.out,if_pos HV.out]
  rw[e]
  exact⟨_,_,_,_,rfl⟩
 ·have HV:=zH hover
  have hn:=zH (hn2 (by omega))
  rw[decide_eq_false hover]
  clear hover hn2
  go_wp2_with fail
  refine bodyPost_ret (v:=.tuple #[.agg #[.int .i64 3,.int .i64 n,.int .i64 (k:Int),.string ⟨#[]⟩],.int .i64 ((k:Int)+(D.length:Int)),.int .i64 0,.int .i64 0]) (by simp[results,Tryz.results27,go_sem]) rfl ⟨?_,ext_alloc (ext_alloc (ext_refl _) _) _⟩
  have e:oneNum (s.data.toList.drop k)=.tok 3 (numOf D) [] D.length:=by unfold oneNum;rw[← HD.out,if_neg HV.out]
  rw[e,hn.out]
  rfl
set_option maxHeartbeats 4000000 in
theorem rone_par (s:ByteArray) (k:Nat) (w:World) (hk:k<s.size) (hs:s.size≤2000) (hb:s.data.toList[k]?=some 36) :
  Calls Tryz.prog 27 #[.string s,.int .i64 (k:Int)] w fun e w'=>OneOut (onePar (s.data.toList.drop (k+1))) k e∧Below w.heap.size w w':=by
 obtain⟨p4,p5⟩:=byt_data hb
 have eb:((s[k]'p4).toNat:Int)=36:=(byt_at s k p4).trans p5
 clear p5 hb
 go_enter Tryz.func27,Tryz.ntmps27
 go_wp2_with fail
 refine (rletter_any 36 _ rfl _).mono ?_
 rintro e w1 ⟨rfl,rfl⟩
 rw[show isLetter 36=false from rfl]
 go_wp2_with fail
 refine (rdigit_any 36 _ rfl _).mono ?_
 rintro e w1 ⟨rfl,rfl⟩
 rw[show isDigit 36=false from rfl]
 go_wp2_with fail
 refine (rdigits_any s (k+1) _ (by omega) hs _ rfl).mono ?_
 rintro e w2 ⟨⟨n,hn0,hn1,hn2,rfl⟩,rfl⟩
 obtain⟨D,hD⟩:∃ D,D=(s.data.toList.drop (k+1)).takeWhile isDigit:=⟨_,rfl⟩
 rw[← hD] at hn2 ⊢
 have HD:=zH hD
 clear hD
 have hdl:D.length≤2000:=by
  have:=takeWhile_le isDigit (s.data.toList.drop (k+1))
  rw[← HD.out,List.length_drop,show s.data.toList.length=s.size from Array.length_toList] at this
  omega
 by_cases hemp:D=[]
 ·subst hemp
  go_wp2_with fail
  refine bodyPost_ret (v:=.tuple #[.agg #[.int .i64 0,.int .i64 0,.int .i64 (k:Int),.string ⟨#[]⟩],.int .i64 0,.int .i64 6,.int .i64 (k:Int)]) (by simp[results,Tryz.results27,go_sem]) rfl ⟨?_,ext_alloc (ext_alloc (ext_refl _) _) _⟩
  have e:onePar (s.data.toList.drop (k+1))=.err 6 0:=by unfold onePar;rw[← HD.out,if_pos rfl]
  rw[e]
  exact⟨_,_,_,_,rfl⟩
 ·have hpos:0<D.length:=List.length_pos_iff.2 hemp
  have HE:=zH hemp
  have hne:((k:Int)+1+(D.length:Int) == (k:Int)+1)=false:=by rw[beq_eq_false_iff_ne];omega
  by_cases hin:1≤numOf D∧numOf D≤4
  ·have hn:=hn2 (by omega)
   rw[decide_eq_false (show ¬ 9223372036854775807<numOf D by omega)]
   have z1:¬ n<1:=by omega
   have z2:¬ n > 4:=by omega
   have HN:=zH (And.intro hin hn)
   clear hn2 hin hn hemp
   go_wp2_with fail
   refine bodyPost_ret (v:=.tuple #[.agg #[.int .i64 5,.int .i64 n,.int .i64 (k:Int),.string ⟨#[]⟩],.int .i64 ((k:Int)+1+(D.length:Int)),.int .i64 0,.int .i64 0]) (by simp[results,Tryz.results27,go_sem]) rfl ⟨?_,ext_alloc (ext_alloc (ext_refl _) _) _⟩
   obtain⟨⟨i1,i2⟩,i3⟩:=HN.out
   have e:onePar (s.data.toList.drop (k+1))=.tok 5 (numOf D) [] (D.length+1):=by unfold onePar;rw[← HD.out,if_neg HE.out,if_neg (by omega)]
   rw[e,i3,show (k:Int)+1+(D.length:Int)=((k+(D.length+1):Nat):Int) by omega]
   rfl
  ·have ER:=zH (show onePar (s.data.toList.drop (k+1))=.err 5 0 by unfold onePar;rw[← HD.out,if_neg HE.out,if_pos (by omega)])
   by_cases hover:9223372036854775807<numOf D
   ·rw[decide_eq_true hover]
    clear hn2 hin hover hemp
    go_wp2_with fail
    refine bodyPost_ret (v:=.tuple #[.agg #[.int .i64 0,.int .i64 0,.int .i64 (k:Int),.string ⟨#[]⟩],.int .i64 0,.int .i64 5,.int .i64 (k:Int)]) (by simp[results,Tryz.results27,go_sem]) rfl ⟨?_,ext_alloc (ext_alloc (ext_refl _) _) _⟩
    rw[ER.out]
    exact⟨_,_,_,_,rfl⟩
   ·have hn:=hn2 (by omega)
    rw[decide_eq_false hover]
    by_cases hlow:n<1
    ·clear hn2 hin hover hemp hn
     go_wp2_with fail
     refine bodyPost_ret (v:=.tuple #[.agg #[.int .i64 0,.int .i64 0,.int .i64 (k:Int),.string ⟨#[]⟩],.int .i64 0,.int .i64 5,.int .i64 (k:Int)]) (by simp[results,Tryz.results27,go_sem]) rfl ⟨?_,ext_alloc (ext_alloc (ext_refl _) _) _⟩
     rw[ER.out]
     exact⟨_,_,_,_,rfl⟩
    ·have z2:n > 4:=by omega
     clear hn2 hin hover hemp hn
     go_wp2_with fail
     refine bodyPost_ret (v:=.tuple #[.agg #[.int .i64 0,.int .i64 0,.int .i64 (k:Int),.string ⟨#[]⟩],.int .i64 0,.int .i64 5,.int .i64 (k:Int)]) (by simp[results,Tryz.results27,go_sem]) rfl ⟨?_,ext_alloc (ext_alloc (ext_refl _) _) _⟩
     rw[ER.out]
     exact⟨_,_,_,_,rfl⟩
end Go.Proofs.YtapbglhjamddbaaGreatDoor
