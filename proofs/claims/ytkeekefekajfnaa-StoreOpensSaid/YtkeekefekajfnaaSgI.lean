/- The store's functions, all together: each does what is said of it. -/
import Derived.Test.YtkeekefekajfnaaSgG
import Derived.Test.YtkeekefekajfnaaSgH
namespace Go.Proofs.Ytkeekefekajfnaa
open Go.RowKit

theorem storeC : StoreC StP where
  keep := fun h o hT => h.keep o hT
  low := fun h => h.low
  name := fun s w hs => (sname_any s w hs).mono fun e w' h => ⟨h.1, by rw [h.2]; exact Below.refl _ _⟩
  right := fun l q c bl bh w h1 h2 h3 h4 => sright_any l q c bl bh w h1 h2 h3 h4
  open_ := fun l q c bl bh w h1 h2 h3 h4 => open5_any l q c bl bh w h1 h2 h3 h4
  find := fun w S p l F n s h => find_any w S p l F n s h
  many := fun w S p l F n i h _ => many_any w S p l F n i h
  cols := fun w S p l F n i h _ => cols_any w S p l F n i h
  row := fun w S p l F n i m h _ _ => row_any w S p l F n i m h
  put := fun w S p l F n s L q c bl bh h h1 h2 h3 h4 h5 h6 h7 h8 => keep_any w S p l F n s L q c bl bh h h1 h2 h3 h4 h5 h6 h7 h8
  kept := fun w S p l F n s h h1 => kept_any w S p l F n s h h1
  signs := fun w S p l F n h => signs_any w S p l F n h

end Go.Proofs.Ytkeekefekajfnaa
