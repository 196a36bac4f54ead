package depot_test

import (
	"bytes"
	"slices"
	"testing"

	"sapper/api"
	"sapper/depot"
	"sapper/maker"
)

// few: an image of two bytes, other for each number.
func few(i int) []byte { return []byte{byte(i), byte(i >> 8)} }

// filled: a depot with as many images as it keeps: few from 0 on; their names.
func filled(t *testing.T) (*depot.Depot, []api.Key) {
	t.Helper()
	d := mustNew(t, usual())
	var names []api.Key
	for i := range api.MaxHeld {
		names = append(names, mustAdd(t, d, few(i)))
	}
	return d, names
}

// P27.2: each of the options, at its ends and beyond them, as maker.Options has it; a depot without images.
func TestNew(t *testing.T) {
	for name, c := range map[string]struct {
		bend func(o *api.Options)
		want api.Errno
	}{
		"usual":          {func(o *api.Options) {}, api.OK},
		"window 64":      {func(o *api.Options) { o.Window = api.MinWindow }, api.OK},
		"window 65536":   {func(o *api.Options) { o.Window = api.MaxWindow }, api.OK},
		"window 63":      {func(o *api.Options) { o.Window = api.MinWindow - 1 }, api.ErrMakeOption},
		"window 65537":   {func(o *api.Options) { o.Window = api.MaxWindow + 1 }, api.ErrMakeOption},
		"window 0":       {func(o *api.Options) { o.Window = 0 }, api.ErrMakeOption},
		"window -1":      {func(o *api.Options) { o.Window = -1 }, api.ErrMakeOption},
		"look 1":         {func(o *api.Options) { o.Press.Look.Window = 1 }, api.OK},
		"look 32768":     {func(o *api.Options) { o.Press.Look.Window = api.MaxLook }, api.OK},
		"look 0":         {func(o *api.Options) { o.Press.Look.Window = 0 }, api.ErrMakeOption},
		"look 32769":     {func(o *api.Options) { o.Press.Look.Window = api.MaxLook + 1 }, api.ErrMakeOption},
		"chain 0":        {func(o *api.Options) { o.Press.Look.Chain = 0 }, api.OK},
		"chain 4096":     {func(o *api.Options) { o.Press.Look.Chain = api.MaxChain }, api.OK},
		"chain -1":       {func(o *api.Options) { o.Press.Look.Chain = -1 }, api.ErrMakeOption},
		"chain 4097":     {func(o *api.Options) { o.Press.Look.Chain = api.MaxChain + 1 }, api.ErrMakeOption},
		"block 1":        {func(o *api.Options) { o.Press.Block = 1 }, api.OK},
		"block 65536":    {func(o *api.Options) { o.Press.Block = api.MaxBlock }, api.OK},
		"block 0":        {func(o *api.Options) { o.Press.Block = 0 }, api.ErrMakeOption},
		"block 65537":    {func(o *api.Options) { o.Press.Block = api.MaxBlock + 1 }, api.ErrMakeOption},
		"lazy":           {func(o *api.Options) { o.Press.Look.Lazy = true }, api.OK},
		"zero":           {func(o *api.Options) { *o = api.Options{} }, api.ErrMakeOption},
		"window of most": {func(o *api.Options) { o.Window = int(^uint(0) >> 1) }, api.ErrMakeOption},
	} {
		o := usual()
		c.bend(&o)
		expect(t, name+": maker.Options", maker.Options(o), c.want)
		d, err := depot.New(o)
		expect(t, name, err, c.want)
		if (d != nil) != (c.want == api.OK) {
			t.Errorf("%s: a depot, or none", name)
		}
		if d == nil {
			continue
		}
		expectKept(t, name, d, 0)
		a, b := mustAdd(t, d, bytes.Repeat([]byte("the old one"), 20)), mustAdd(t, d, bytes.Repeat([]byte("the new 0ne"), 30))
		expectPatch(t, name, d, ask(a, b), generate(bytes.Repeat([]byte("the old one"), 20), bytes.Repeat([]byte("the new 0ne"), 30), o), api.OK)
	}
}

// P27.3: images come, the same ones once more, and the empty one.
func TestAdd(t *testing.T) {
	d := mustNew(t, usual())
	expectKept(t, "none", d, 0)
	expectImage(t, "none", d, api.Key{}, nil, api.ErrDepotImage)
	a := mustAdd(t, d, []byte("a"))
	expectKept(t, "a", d, 0, a)
	expectImage(t, "a", d, a, []byte("a"), api.OK)
	expectImage(t, "none", d, api.Key{}, nil, api.ErrDepotImage)
	none := mustAdd(t, d, nil)
	if none != (api.Key{}) {
		t.Errorf("the name of no bytes: %v", none)
	}
	expectKept(t, "and none", d, 0, none, a)
	expectImage(t, "no bytes", d, none, nil, api.OK)
	mustAdd(t, d, []byte{})
	mustAdd(t, d, []byte("a"))
	b := mustAdd(t, d, []byte("b"))
	mustAdd(t, d, []byte("b"))
	expectKept(t, "three", d, 0, none, b, a)
	for k, want := range map[api.Key]string{none: "", a: "a", b: "b"} {
		expectImage(t, want, d, k, []byte(want), api.OK)
	}
}

// P27.3: an image of MaxImage bytes, and of one more.
func TestLargest(t *testing.T) {
	d := mustNew(t, usual())
	large := make([]byte, api.MaxImage+1)
	large[3], large[api.MaxImage] = 7, 9
	for range 2 {
		if k, err := d.Add(large); k != (api.Key{}) || err != api.ErrDepotMany {
			t.Errorf("one more: %v, %v", k, err)
		}
	}
	expectKept(t, "one more", d, 0)
	for range 2 {
		k := mustAdd(t, d, large[:api.MaxImage])
		expectKept(t, "just as many", d, 0, k)
		if b, err := d.Image(k); err != api.OK || !bytes.Equal(b, large[:api.MaxImage]) {
			t.Errorf("Image: %d bytes, %v", len(b), err)
		}
	}
}

// P27.3: another image with the same name is refused as long as the first one is kept, and taken when that is gone.
func TestClash(t *testing.T) {
	first := digits(21)
	other := twin(first, 8, 0)
	if bytes.Equal(first, other) || keyOf(first) != keyOf(other) {
		t.Fatal("no twin")
	}
	d := mustNew(t, usual())
	k := mustAdd(t, d, first)
	for range 2 {
		if got, err := d.Add(other); got != (api.Key{}) || err != api.ErrDepotClash {
			t.Errorf("another one: %v, %v", got, err)
		}
		expectKept(t, "another one", d, 0, k)
		expectImage(t, "another one", d, k, first, api.OK)
		mustAdd(t, d, first)
	}
	expect(t, "Drop", d.Drop(k), api.OK)
	mustAdd(t, d, other)
	expectImage(t, "the other one", d, k, other, api.OK)
	if got, err := d.Add(first); got != (api.Key{}) || err != api.ErrDepotClash {
		t.Errorf("the first one: %v, %v", got, err)
	}
	expectKept(t, "the other one", d, 0, k)
}

// P27.3: the image after MaxHeld ones, one that is kept already once more, and as soon as one is gone there is room.
func TestMany(t *testing.T) {
	d, names := filled(t)
	slices.SortFunc(names, func(a, b api.Key) int {
		if ahead(a, b) {
			return -1
		}
		return 1
	})
	for _, image := range [][]byte{few(64), {}, []byte("another"), digits(300)} {
		if k, err := d.Add(image); k != (api.Key{}) || err != api.ErrDepotMany {
			t.Errorf("%x: %v, %v", image, k, err)
		}
	}
	expectKept(t, "full", d, 0, names...)
	for i := range api.MaxHeld {
		mustAdd(t, d, few(i))
	}
	expectKept(t, "once more", d, 0, names...)
	expect(t, "Drop", d.Drop(names[20]), api.OK)
	expectKept(t, "one less", d, 0, slices.Delete(slices.Clone(names), 20, 21)...)
	mustAdd(t, d, digits(300))
	if k, err := d.Add(few(64)); k != (api.Key{}) || err != api.ErrDepotMany {
		t.Errorf("full again: %v, %v", k, err)
	}
	expectImage(t, "one that is gone", d, names[20], nil, api.ErrDepotImage)
}

// P27.3: the order of what Add refuses: too large, another one of that name, kept already, too many.
func TestOrderOfAdd(t *testing.T) {
	large := make([]byte, api.MaxImage+1)
	first := digits(40)
	d := mustNew(t, usual())
	k := mustAdd(t, d, first)
	for i := range api.MaxHeld - 1 {
		mustAdd(t, d, few(i))
	}
	for _, c := range []struct {
		name  string
		image []byte
		key   api.Key
		want  api.Errno
	}{
		{"too large, and too many", large, api.Key{}, api.ErrDepotMany},
		{"another one, and too many", twin(first, 9, 3), api.Key{}, api.ErrDepotClash},
		{"kept, and too many", first, k, api.OK},
		{"too many", few(64), api.Key{}, api.ErrDepotMany},
	} {
		if got, err := d.Add(c.image); got != c.key || err != c.want {
			t.Errorf("%s: %v, %v", c.name, got, err)
		}
	}
	var none *depot.Depot
	for _, image := range [][]byte{large, first, nil} {
		if got, err := none.Add(image); got != (api.Key{}) || err != api.ErrMade {
			t.Errorf("%d bytes, no depot: %v, %v", len(image), got, err)
		}
	}
}

// P27.3: a name that is not kept, with each of its parts otherwise; and one that is kept no more.
func TestDrop(t *testing.T) {
	d, l := stocked(t, "a", "b", "abc")
	a, b, abc := l[0], l[1], l[2]
	size, sum, first, last := a, a, a, a
	size.Size++
	sum.Sum ^= 1 << 31
	first.Ends[0]++
	last.Ends[15]++
	for _, k := range []api.Key{size, sum, first, last, {}, {Size: -1}, {Size: 1}} {
		expect(t, "not kept", d.Drop(k), api.ErrDepotImage)
		expectImage(t, "not kept", d, k, nil, api.ErrDepotImage)
	}
	expectKept(t, "three", d, 0, b, a, abc)
	expect(t, "a", d.Drop(a), api.OK)
	expectKept(t, "two", d, 0, b, abc)
	expectImage(t, "gone", d, a, nil, api.ErrDepotImage)
	expect(t, "a again", d.Drop(a), api.ErrDepotImage)
	expect(t, "abc", d.Drop(abc), api.OK)
	expect(t, "b", d.Drop(b), api.OK)
	expectKept(t, "none", d, 0)
	expect(t, "b again", d.Drop(b), api.ErrDepotImage)
	mustAdd(t, d, []byte("a"))
	expectKept(t, "anew", d, 0, a)
	expectImage(t, "anew", d, a, []byte("a"), api.OK)
}

// P27.3: patches from the one that goes, to it, and from it to itself go with it; the others stay, also behind a new Add.
func TestDropWithPatches(t *testing.T) {
	d, l := stocked(t, "a", "b", "c")
	a, b, c := l[0], l[1], l[2]
	for _, x := range []api.Ask{ask(a, b), ask(b, a), ask(b, c), ask(c, b), ask(a, c), ask(b, b), ask(a, a)} {
		if _, err := d.Patch(x); err != api.OK {
			t.Fatal(err)
		}
	}
	expectKept(t, "seven", d, 7, c, b, a)
	expect(t, "Drop", d.Drop(b), api.OK)
	expectKept(t, "two", d, 2, c, a)
	mustAdd(t, d, []byte("b"))
	expectKept(t, "b anew", d, 2, c, b, a)
	expectRoute(t, "b anew", d, ask(a, b), nil, 0, api.ErrDepotRoute)
	expectRoute(t, "not over b", d, ask(a, c), []api.Key{a, c}, len(generate([]byte("a"), []byte("c"), usual())), api.OK)
	expectPatch(t, "b anew", d, ask(a, b), generate([]byte("a"), []byte("b"), usual()), api.OK)
	expectKept(t, "three", d, 3, c, b, a)
	expect(t, "Drop", d.Drop(a), api.OK)
	expectKept(t, "none", d, 0, c, b)
}

// P27.3: Keys by Size, then by Sum, then by Ends, in whatever order the images came; all are numbers from 0 on.
func TestKeys(t *testing.T) {
	long := make([]byte, 30)
	images := [][]byte{
		nil, {0}, []byte("b"), []byte("a"), // one byte: the sums 71beeff9, d202ef8d, e8b7be43
		{0xff, 0, 0}, []byte("abc"),
		long, twin(long, 0, 7), twin(long, 0, 6), twin(long, 1, 7), twin(long, 4, 0), twin(long, 25, 0), twin(long, 22, 7), twin(long, 7, 1), // one sum
		digits(300), append([]byte{1}, digits(255)...),
	}
	want := (&model{images: keptAll(images)}).Keys()
	r := rolls(2)
	for range 50 {
		d := mustNew(t, usual())
		for i := range images {
			k := i + r.below(len(images)-i)
			images[i], images[k] = images[k], images[i]
		}
		for _, b := range images {
			mustAdd(t, d, b)
		}
		expectKept(t, "all", d, 0, want...)
	}
	if l := want[1:4]; l[0].Sum != 0x71beeff9 || l[1].Sum != 0xd202ef8d || l[2].Sum != 0xe8b7be43 {
		t.Errorf("by Sum: %v", l)
	}
	alike := 0
	for i, k := range want[1:] {
		if k.Size == want[i].Size && k.Sum == want[i].Sum {
			alike++
		}
	}
	if alike != 7 {
		t.Errorf("%d part in Ends alone", alike)
	}
}

// keptAll: these images, kept.
func keptAll(images [][]byte) []held {
	var out []held
	for _, b := range images {
		out = append(out, held{name: keyOf(b), bytes: b})
	}
	return out
}

// P27.3: names that part in Ends alone, by hand: byte by byte, from the first one on, 0x80 behind 0x7f.
func TestKeysByEnds(t *testing.T) {
	long := make([]byte, 40)
	low, high := twin(long, 0, 0), twin(long, 0, 7) // begin with 0x41, and with 0x80
	later := twin(long, 1, 0)                       // with 0 0x41
	last := twin(long, 35, 0)                       // nothing but at the end
	d := mustNew(t, usual())
	for _, b := range [][]byte{high, later, last, low, long} {
		mustAdd(t, d, b)
	}
	expectKept(t, "five", d, 0, keyOf(long), keyOf(last), keyOf(later), keyOf(low), keyOf(high))
	for _, b := range [][]byte{high, later, last, low, long} {
		if k := keyOf(b); k.Size != 40 || k.Sum != keyOf(long).Sum {
			t.Errorf("%x: %v", b, k)
		}
		expectImage(t, "five", d, keyOf(b), b, api.OK)
	}
}
