package vault

const (
	maxPages   = 1024
	minJournal = 3
	maxJournal = 512
)

// Where the first parts of a vault are on its disk. The pages of leaves follow the journal, and all other pages follow them.
const (
	headerAt  = 0
	journalAt = 1
)

// Config is the number of pages of a vault (1 to 1024), and the size of the place of its journal (3 to 512).
type Config struct{ Pages, Journal int }

// Disk returns the number of pages of a disk that a vault needs.
func (c Config) Disk() int {
	c = c.limited()
	return c.pageAt(c.Pages)
}

func (c Config) limited() Config {
	return Config{
		Pages:   max(1, min(c.Pages, maxPages)),
		Journal: max(minJournal, min(c.Journal, maxJournal)),
	}
}

// leafPages returns the number of pages of leaves.
func (c Config) leafPages() int { return (c.Pages + leavesPerPage - 1) / leavesPerPage }

// leafPageAt returns where the i-th page of leaves is on the disk, counted from 0.
func (c Config) leafPageAt(i int) int { return journalAt + c.Journal + i }

// pageAt returns where page p is on the disk.
func (c Config) pageAt(p int) int { return c.leafPageAt(c.leafPages()) + p }
